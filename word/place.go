package word

import "reclaim/api"

// Size is how many words the memory of a configuration has.
func Size(c api.Config) (int, api.Errno) {
	if e := Check(c); e != api.OK {
		return 0, e
	}
	return start(c, rows), api.OK
}

// Addr is a place's address.
func Addr(c api.Config, p api.Place) (int, api.Errno) {
	if e := Check(c); e != api.OK {
		return 0, e
	}
	if !isRegion(p.Region) {
		return 0, api.ErrRange
	}
	items, each := extent(c, p.Region)
	if !within(p.I, 0, items-1) || !within(p.K, 0, each-1) {
		return 0, api.ErrRange
	}
	return start(c, p.Region) + p.I*each + p.K, api.OK
}

// At is the place at an address.
func At(c api.Config, addr int) (api.Place, api.Errno) {
	if e := Check(c); e != api.OK {
		return api.Place{}, e
	}
	if addr < 0 {
		return api.Place{}, api.ErrRange
	}
	rest := addr
	for r := api.Region(rowFree); r < rows; r++ {
		items, each := extent(c, r)
		if rest < items*each {
			return api.Place{Region: r, I: rest / each, K: rest % each}, api.OK
		}
		rest -= items * each
	}
	return api.Place{}, api.ErrRange
}

// First is the memory at the beginning: the slots below used are not in the free list.
func First(c api.Config, used int) ([]uint64, api.Errno) {
	size, e := Size(c)
	if e != api.OK {
		return nil, e
	}
	if !within(used, 0, c.Slots) {
		return nil, api.ErrRange
	}
	words := make([]uint64, size)
	if used < c.Slots {
		words[start(c, rowFree)] = slotWord(used)
	}
	spare := start(c, rowSpare)
	for s := used; s < c.Slots-1; s++ {
		words[spare+s] = slotWord(s + 1)
	}
	if used > 0 {
		words[start(c, rowHead)] = slotWord(0)
		words[start(c, rowTail)] = slotWord(0)
	}
	return words, api.OK
}

// start is the address of a region's first word, of a configuration that may be.
func start(c api.Config, r api.Region) int {
	addr := 0
	for ahead := api.Region(rowFree); ahead < r; ahead++ {
		items, each := extent(c, ahead)
		addr += items * each
	}
	return addr
}
