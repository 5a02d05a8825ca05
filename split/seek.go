package split

import (
	"reclaim/chain"
	"reclaim/machine"
)

// seek makes the root that of a bucket's stretch, and plants the bucket, and those that it comes from, as
// far as they are not planted yet.
func (p *planting) seek(d *machine.Desk, bucket int, rooted func(d *machine.Desk)) {
	p.rooted = rooted
	p.lookAt(d, bucket)
}

// lookAt goes on with whether a bucket is planted: bucket 0 is the list's beginning itself.
func (p *planting) lookAt(d *machine.Desk, bucket int) {
	if bucket == 0 {
		p.root = p.rootAddr()
		p.plantNext(d)
		return
	}
	p.Next = func(d *machine.Desk) { p.loadBucket(d, bucket) }
}

func (p *planting) loadBucket(d *machine.Desk, bucket int) {
	slot := p.Slot(d.Load(p.bucketAddr(bucket)))
	if slot == none {
		p.bare = append(p.bare, bucket)
		p.lookAt(d, parent(bucket))
		return
	}
	p.root = p.linkAddr(slot)
	p.plantNext(d)
}

// plantNext goes on with the lowest bucket that is still to be planted, from the root of the one ahead of it.
func (p *planting) plantNext(d *machine.Desk) {
	if len(p.bare) == 0 {
		p.rooted(d)
		return
	}
	p.plant(d, placeOfBucket(p.lowest()), p.storeLink, p.bucketPlanted)
}

// lowest is the lowest bucket that is still to be planted.
func (p *planting) lowest() int {
	return p.bare[len(p.bare)-1]
}

// bucketPlanted goes on with the slot that stands at the bucket's place, whosever it is. Where none was to be
// had the bucket stays as it is: from the root ahead of it all its keys are come to as well.
func (p *planting) bucketPlanted(d *machine.Desk) {
	there, slot, _ := p.finding.Found()
	switch {
	case there:
		p.giveBack(d, func(*machine.Desk) { p.name(slot) })
	case p.mine == none:
		p.plantOn(d)
	default:
		p.name(p.mine)
	}
}

// name goes on with the bucket's word, which is to name its slot. Another thread may have done it meanwhile.
func (p *planting) name(slot int) {
	p.Next = func(d *machine.Desk) {
		d.Swap(p.bucketAddr(p.lowest()), chain.Link(none), chain.Link(slot))
		p.root = p.linkAddr(slot)
		p.plantOn(d)
	}
}

// plantOn is through with a bucket.
func (p *planting) plantOn(d *machine.Desk) {
	p.bare = p.bare[:len(p.bare)-1]
	p.plantNext(d)
}
