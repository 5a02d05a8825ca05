package machine

import "reclaim/api"

// Own are the machine's own calls, over a memory of that size.
func Own(size int) Kit {
	return Kit{
		api.OpLook: within(size, func(addr int) Task { return &look{addr: addr} }),
		api.OpBump: within(size, func(addr int) Task { return &bump{addr: addr} }),
	}
}

// within makes a maker that refuses what is no address of a memory of that size.
func within(size int, at func(addr int) Task) Maker {
	return func(_ int, mv api.Move) Task {
		if mv.Arg < 0 || mv.Arg >= size {
			return nil
		}
		return at(mv.Arg)
	}
}

// look loads a word.
type look struct {
	addr int
}

func (l *look) Ready(*Desk) bool { return false }

func (l *look) Step(d *Desk) bool {
	tellWord(d, d.Load(l.addr))
	return true
}

// bump loads a word and swaps it to the next one, again and again till nobody came between.
type bump struct {
	addr   int
	word   uint64
	loaded bool // the next access is the swap
}

func (b *bump) Ready(*Desk) bool { return false }

func (b *bump) Step(d *Desk) bool {
	if !b.loaded {
		b.word = d.Load(b.addr)
		b.loaded = true
		return false
	}
	b.loaded = false
	if !d.Swap(b.addr, b.word, b.word+1) {
		return false
	}
	tellWord(d, b.word)
	return true
}

// tellWord makes this move the call's point and the word its answer.
func tellWord(d *Desk, w uint64) {
	d.Point(d.Now())
	d.Answer(api.Answer{Kind: api.AnswerValue, Value: int(w)})
}

// Play runs a script of the machine's own calls.
func Play(threads int, words []uint64, moves []api.Move) (api.Run, api.Errno) {
	m, e := New(threads, words, Own(len(words)))
	if e != api.OK {
		return api.Run{}, e
	}
	if len(moves) > api.MaxMoves {
		return api.Run{}, api.ErrLong
	}
	for _, mv := range moves {
		m.Move(mv)
	}
	return m.Run(), api.OK
}
