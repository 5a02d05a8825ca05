package word

import "reclaim/api"

// How links and heads are packed: both have the slot in their low bits; above them a link has
// its mark and a head its tag.
const (
	slotBits        = 32
	slotMask uint64 = 1<<slotBits - 1
	markBit  uint64 = 1 << slotBits
)

// none is the number of a slot that there isn't.
const none = -1

// Link packs a slot's number (-1: none) and a mark.
func Link(index int, mark bool) (uint64, api.Errno) {
	if !within(index, none, api.MaxIndex) {
		return 0, api.ErrRange
	}
	w := slotWord(index)
	if mark {
		w |= markBit
	}
	return w, api.OK
}

// Unlink takes a link apart.
func Unlink(w uint64) (int, bool, api.Errno) {
	index, ok := slotOf(w)
	if !ok || w&^(slotMask|markBit) != 0 {
		return 0, false, api.ErrWord
	}
	return index, w&markBit != 0, api.OK
}

// Head packs a tag and a slot's number (-1: none).
func Head(tag uint32, index int) (uint64, api.Errno) {
	if !within(index, none, api.MaxIndex) {
		return 0, api.ErrRange
	}
	return uint64(tag)<<slotBits | slotWord(index), api.OK
}

// Unhead takes a head apart.
func Unhead(w uint64) (uint32, int, api.Errno) {
	index, ok := slotOf(w)
	if !ok {
		return 0, 0, api.ErrWord
	}
	return uint32(w >> slotBits), index, api.OK
}

// Number packs a number.
func Number(v int) uint64 {
	return uint64(v)
}

// Value takes a number's word apart.
func Value(w uint64) int {
	return int(w)
}

// slotWord packs a slot's number that is known to be in its range. It is kept one higher, so
// that a word of zeros names no slot.
func slotWord(index int) uint64 {
	return uint64(index + 1)
}

// slotOf is the slot's number in the low bits of a word; false: these are beyond any slot's.
func slotOf(w uint64) (int, bool) {
	low := w & slotMask
	if low > slotWord(api.MaxIndex) {
		return 0, false
	}
	return int(low) - 1, true
}
