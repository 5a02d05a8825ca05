package word

import "reclaim/api"

// The regions as rows of this package's table: api's numbers, in api's order.
const (
	rowFree = iota + 1
	rowCell
	rowTop
	rowHead
	rowTail
	rowRoot
	rowBucket
	rowActive
	rowHazard
	rowSpare
	rowValue
	rowData
	rowLink
	rows // one behind the last row
)

// kind is what the words of a region are.
type kind int

const (
	kindHead kind = iota
	kindPlain
	kindFlag
	kindNumber
	kindLink
)

// trait is what a region has in every configuration.
type trait struct {
	name    string
	kind    kind
	numbers int // how many numbers tell a word of it apart: 0, 1 (I) or 2 (I and K)
}

// isRegion tells whether there is such a region; the other functions of this file take no others.
func isRegion(r api.Region) bool {
	return rowFree <= r && r < rows
}

func traitOf(r api.Region) trait {
	table := [rows]trait{
		rowFree:   {"free", kindHead, 0},
		rowCell:   {"cell", kindPlain, 0},
		rowTop:    {"top", kindPlain, 0},
		rowHead:   {"head", kindPlain, 0},
		rowTail:   {"tail", kindPlain, 0},
		rowRoot:   {"root", kindPlain, 0},
		rowBucket: {"bucket", kindPlain, 1},
		rowActive: {"active", kindFlag, 1},
		rowHazard: {"hazard", kindPlain, 2},
		rowSpare:  {"spare", kindPlain, 1},
		rowValue:  {"value", kindNumber, 1},
		rowData:   {"data", kindNumber, 1},
		rowLink:   {"link", kindLink, 1},
	}
	return table[r]
}

// regionOf is the region with that name; 0, which is none: there is no such region.
func regionOf(name string) api.Region {
	for r := api.Region(rowFree); r < rows; r++ {
		if traitOf(r).name == name {
			return r
		}
	}
	return 0
}

// extent is how many buckets, records or slots a region has words for, and how many words for
// each of them.
func extent(c api.Config, r api.Region) (int, int) {
	switch r {
	case rowBucket:
		return c.Buckets, 1
	case rowActive:
		return c.Records, 1
	case rowHazard:
		return c.Records, c.Hazards
	case rowSpare, rowValue, rowData, rowLink:
		return c.Slots, 1
	}
	return 1, 1
}
