package word

import (
	"strconv"
	"strings"

	"reclaim/api"
)

// Name is a place's name, whatever the configuration.
func Name(p api.Place) (string, api.Errno) {
	if !isRegion(p.Region) || p != bare(p) {
		return "", api.ErrRange
	}
	if !within(p.I, 0, api.MaxIndex) || !within(p.K, 0, api.MaxIndex) {
		return "", api.ErrRange
	}
	t := traitOf(p.Region)
	name := t.name
	if t.numbers > 0 {
		name += " " + strconv.Itoa(p.I)
	}
	if t.numbers > 1 {
		name += "." + strconv.Itoa(p.K)
	}
	return name, api.OK
}

// Read is the place that a text names. Each name is written in just one way: so the place that
// the text could name is named again, and the two texts are held against each other.
func Read(s string) (api.Place, api.Errno) {
	p := likelyPlace(s)
	if name, e := Name(p); e != api.OK || name != s {
		return api.Place{}, api.ErrName
	}
	return p, api.OK
}

// likelyPlace is the place that a text names, if it names one; else any.
func likelyPlace(s string) api.Place {
	region, numbers, _ := strings.Cut(s, " ")
	i, k, _ := strings.Cut(numbers, ".")
	return api.Place{Region: regionOf(region), I: likelyInt(i), K: likelyInt(k)}
}

// likelyInt is the number that a text tells, if it tells one; else any: whoever asks writes the
// number again and finds what is wrong by that.
func likelyInt(s string) int {
	n, err := strconv.Atoi(s)
	if err != nil {
		return 0
	}
	return n
}

// bare is a place without the numbers that its region doesn't have.
func bare(p api.Place) api.Place {
	switch traitOf(p.Region).numbers {
	case 0:
		return api.Place{Region: p.Region}
	case 1:
		return api.Place{Region: p.Region, I: p.I}
	}
	return p
}
