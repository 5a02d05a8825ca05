package word

import (
	"strconv"
	"strings"

	"reclaim/api"
)

// What a link's text has for no slot and for a mark, and a head's text between tag and slot.
const (
	noneText = "-"
	markText = "*"
	tagText  = ":"
)

// Show is a word's text, as its region has it.
func Show(r api.Region, w uint64) (string, api.Errno) {
	if !isRegion(r) {
		return "", api.ErrRange
	}
	switch traitOf(r).kind {
	case kindHead:
		return showHead(w)
	case kindPlain:
		return showPlain(w)
	case kindFlag:
		return showFlag(w)
	case kindLink:
		return showLink(w)
	}
	return strconv.Itoa(Value(w)), api.OK
}

func showHead(w uint64) (string, api.Errno) {
	tag, index, e := Unhead(w)
	if e != api.OK {
		return "", e
	}
	return strconv.FormatUint(uint64(tag), 10) + tagText + showSlot(index), api.OK
}

func showPlain(w uint64) (string, api.Errno) {
	index, mark, e := Unlink(w)
	if e != api.OK || mark {
		return "", api.ErrWord
	}
	return showSlot(index), api.OK
}

func showLink(w uint64) (string, api.Errno) {
	index, mark, e := Unlink(w)
	if e != api.OK {
		return "", e
	}
	if mark {
		return showSlot(index) + markText, api.OK
	}
	return showSlot(index), api.OK
}

func showFlag(w uint64) (string, api.Errno) {
	if w > 1 {
		return "", api.ErrWord
	}
	return strconv.FormatUint(w, 10), api.OK
}

func showSlot(index int) string {
	if index == none {
		return noneText
	}
	return strconv.Itoa(index)
}

// Parse is the word of a text in its region. As with names, the word that the text could be of
// is shown again, and the two texts are held against each other.
func Parse(r api.Region, s string) (uint64, api.Errno) {
	if !isRegion(r) {
		return 0, api.ErrRange
	}
	w := likelyWord(traitOf(r).kind, s)
	if text, e := Show(r, w); e != api.OK || text != s {
		return 0, api.ErrText
	}
	return w, api.OK
}

// likelyWord is the word of that kind whose text s is, if it is one's; else any.
func likelyWord(k kind, s string) uint64 {
	switch k {
	case kindHead:
		return likelyHead(s)
	case kindPlain, kindLink:
		return likelyLink(s)
	}
	return Number(likelyInt(s))
}

func likelyHead(s string) uint64 {
	tag, slot, _ := strings.Cut(s, tagText)
	w, _ := Head(uint32(likelyInt(tag)), likelySlot(slot))
	return w
}

func likelyLink(s string) uint64 {
	slot, mark := strings.CutSuffix(s, markText)
	w, _ := Link(likelySlot(slot), mark)
	return w
}

func likelySlot(s string) int {
	if s == noneText {
		return none
	}
	return likelyInt(s)
}
