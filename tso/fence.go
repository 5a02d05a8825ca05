package tso

import (
	"slices"

	"reclaim/api"
)

// storesOf is how many of some instructions are stores.
func storesOf(code []api.Instr) int {
	n := 0
	for _, in := range code {
		if in.Kind == api.InstrStore {
			n++
		}
	}
	return n
}

func canBeFenced(l api.Litmus) bool {
	for _, code := range l.Threads {
		if len(code)+storesOf(code) > api.MaxCode {
			return false
		}
	}
	return true
}

func fenced(l api.Litmus) api.Litmus {
	out := api.Litmus{Words: slices.Clone(l.Words), Threads: make([][]api.Instr, len(l.Threads))}
	for i, code := range l.Threads {
		out.Threads[i] = fencedCode(code)
	}
	return out
}

func fencedCode(code []api.Instr) []api.Instr {
	out := make([]api.Instr, 0, len(code)+storesOf(code))
	for i, in := range code {
		if in.Kind == api.InstrSkip {
			behind := code[i+1:]
			in.Count = min(in.Count+storesOf(behind[:min(in.Count, len(behind))]), api.MaxCode)
		}
		out = append(out, in)
		if in.Kind == api.InstrStore {
			out = append(out, fence())
		}
	}
	return out
}
