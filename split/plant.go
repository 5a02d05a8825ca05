package split

import (
	"reclaim/api"
	"reclaim/chain"
	"reclaim/machine"
	"reclaim/word"
)

// planting puts slots into the list: those of the buckets on the way to a root, and a key's. It is embedded
// in the calls.
type planting struct {
	walk
	place   int                   // where the slot is to stand
	mine    int                   // the slot that was taken for it; none: none was
	filled  func(d *machine.Desk) // what comes behind the store of its place
	planted func(d *machine.Desk) // what comes when a slot stands there, or none was to be had

	bare   []int                 // the buckets on the way to the root that are not planted, the highest ahead
	rooted func(d *machine.Desk) // what comes when the root is known
}

// plant puts a slot at a place, if none stands there yet.
func (p *planting) plant(d *machine.Desk, place int, filled, planted func(d *machine.Desk)) {
	p.place, p.mine, p.filled, p.planted = place, none, filled, planted
	p.search(d)
}

func (p *planting) search(d *machine.Desk) {
	p.find(d, p.place, p.found)
}

// found goes on behind the part Find: a slot is taken just once, however often the place is looked for.
func (p *planting) found(d *machine.Desk) {
	there, _, _ := p.finding.Found()
	switch {
	case there:
		p.planted(d)
	case p.mine == none:
		p.take(d)
	default:
		p.Next = p.storeLink
	}
}

func (p *planting) take(d *machine.Desk) {
	taking := p.Arena.Take(p.thread)
	p.Through(d, taking, func(d *machine.Desk) {
		p.mine = taking.Slot()
		p.Next = p.storeValue
		if p.mine == none {
			p.planted(d)
		}
	})
}

func (p *planting) storeValue(d *machine.Desk) {
	d.Store(p.valueAddr(p.mine), word.Number(p.place))
	p.Next = p.filled
}

func (p *planting) storeLink(d *machine.Desk) {
	_, saw := p.finding.Before()
	d.Store(p.linkAddr(p.mine), saw)
	p.Next = p.swapIn
}

// swapIn swaps the word ahead of the place, if that one is still as it was found.
func (p *planting) swapIn(d *machine.Desk) {
	at, saw := p.finding.Before()
	if !d.Swap(at, saw, chain.Link(p.mine)) {
		p.search(d)
		return
	}
	p.Arena.Shift(d, p.mine, api.StateLinked)
	p.planted(d)
}

// giveBack gives the slot back that was taken, if one was: another thread's stands at the place.
func (p *planting) giveBack(d *machine.Desk, then func(d *machine.Desk)) {
	if p.mine == none {
		then(d)
		return
	}
	p.Through(d, p.Arena.Give(p.thread, p.mine), then)
}
