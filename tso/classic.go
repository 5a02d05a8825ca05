package tso

import "reclaim/api"

// classic is a program that everybody knows.
type classic struct {
	name    string
	words   []int
	threads [][]api.Instr
}

// classics is made anew for each call, as the programs are handed out.
func classics() []classic {
	return []classic{
		{"SB", []int{0, 0}, [][]api.Instr{
			{store(0, 1), load(0, 1)},
			{store(1, 1), load(0, 0)}}},
		{"MP", []int{0, 0}, [][]api.Instr{
			{store(0, 1), store(1, 1)},
			{load(0, 1), load(1, 0)}}},
		{"LB", []int{0, 0}, [][]api.Instr{
			{load(0, 0), store(1, 1)},
			{load(0, 1), store(0, 1)}}},
		{"IRIW", []int{0, 0}, [][]api.Instr{
			{store(0, 1)},
			{store(1, 1)},
			{load(0, 0), load(1, 1)},
			{load(0, 1), load(1, 0)}}},
		{"R", []int{0, 0}, [][]api.Instr{
			{store(0, 1), store(1, 1)},
			{store(1, 2), load(0, 0)}}},
		{"S", []int{0, 0}, [][]api.Instr{
			{store(0, 2), store(1, 1)},
			{load(0, 1), store(0, 1)}}},
		{"2+2W", []int{0, 0}, [][]api.Instr{
			{store(0, 1), store(1, 2)},
			{store(1, 1), store(0, 2)}}},
		{"SB+fence", []int{0, 0}, [][]api.Instr{
			{store(0, 1), fence(), load(0, 1)},
			{store(1, 1), fence(), load(0, 0)}}},
		{"protect", []int{1, 0, 7}, [][]api.Instr{
			{store(1, 1), load(0, 0), skip(1, 0, 0), load(1, 2)},
			{swap(0, 0, 1, 0), load(1, 1), skip(1, 1, 1), store(2, -1)}}},
		{"protect+fence", []int{1, 0, 7}, [][]api.Instr{
			{store(1, 1), fence(), load(0, 0), skip(1, 0, 0), load(1, 2)},
			{swap(0, 0, 1, 0), load(1, 1), skip(1, 1, 1), store(2, -1)}}},
	}
}

func store(addr, value int) api.Instr {
	return api.Instr{Kind: api.InstrStore, Addr: addr, Value: value, From: -1}
}

func load(reg, addr int) api.Instr { return api.Instr{Kind: api.InstrLoad, Reg: reg, Addr: addr} }

func fence() api.Instr { return api.Instr{Kind: api.InstrFence} }

// skip leaves out count instructions, if a register has the value.
func skip(count, reg, value int) api.Instr {
	return api.Instr{Kind: api.InstrSkip, Count: count, Reg: reg, Value: value}
}

// swap turns a word from old to value, and tells by a register whether it could.
func swap(reg, addr, old, value int) api.Instr {
	return api.Instr{Kind: api.InstrSwap, Reg: reg, Addr: addr, Old: old, Value: value}
}
