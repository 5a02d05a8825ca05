package split

import (
	"reclaim/api"
	"reclaim/base"
	"reclaim/chain"
	"reclaim/hazard"
	"reclaim/machine"
	"reclaim/word"
)

// none stands for a slot, a bucket or a move that there isn't.
const none = chain.None

// The words behind those of the configuration.
const (
	countWord = iota // how many keys there are
	sizeWord         // how many buckets are in use
	moreWords
)

// ground is what the calls of one machine stand on.
type ground struct {
	base.Base
	table api.Split
}

func groundOf(s api.Split, h *hazard.Hazards) *ground {
	b, _ := base.On(h)
	return &ground{Base: b, table: s}
}

// kit are the three calls.
func (g *ground) kit() machine.Kit {
	return machine.Kit{
		api.OpAdd: g.keyed(func(thread int, mv api.Move) machine.Task {
			return g.add(thread, mv.Arg, mv.Data)
		}),
		api.OpGet: g.keyed(func(thread int, mv api.Move) machine.Task {
			return g.get(thread, mv.Arg)
		}),
		api.OpRemove: g.keyed(func(thread int, mv api.Move) machine.Task {
			return g.remove(thread, mv.Arg)
		}),
	}
}

// keyed makes a maker that refuses what is no key, and a thread that holds no record.
func (g *ground) keyed(begin machine.Maker) machine.Maker {
	return g.Holding(func(thread int, mv api.Move) machine.Task {
		if !isKey(mv.Arg) {
			return nil
		}
		return begin(thread, mv)
	})
}

// Addresses.

// addrBehind is the address of a word behind those of a configuration.
func addrBehind(c api.Config, number int) int {
	size, _ := word.Size(c)
	return size + number
}

func (g *ground) countAddr() int {
	return addrBehind(g.table.Config, countWord)
}

func (g *ground) sizeAddr() int {
	return addrBehind(g.table.Config, sizeWord)
}

func (g *ground) rootAddr() int {
	return g.Addr(api.RegionRoot, 0)
}

func (g *ground) bucketAddr(bucket int) int {
	return g.Addr(api.RegionBucket, bucket)
}

func (g *ground) valueAddr(slot int) int {
	return g.Addr(api.RegionValue, slot)
}

func (g *ground) dataAddr(slot int) int {
	return g.Addr(api.RegionData, slot)
}

func (g *ground) linkAddr(slot int) int {
	return g.Addr(api.RegionLink, slot)
}
