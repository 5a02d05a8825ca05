package script_test

import (
	"strconv"
	"strings"
	"testing"

	"reclaim/api"
)

// dice are the same numbers each time.
type dice uint64

func (d *dice) below(n int) int {
	*d = *d*6364136223846793005 + 1442695040888963407
	return int(uint64(*d) >> 33 % uint64(n))
}

func (d *dice) often(of10 int) bool { return d.below(10) < of10 }

func (d *dice) one(of ...string) string { return of[d.below(len(of))] }

// config is any that may be.
func (d *dice) config() api.Config {
	var n [7]int
	for i, limit := range limits() {
		n[i] = limit[0] + d.below(limit[1]-limit[0]+1)
	}
	return configOf(n[0], n[1], n[2], n[3], n[4], n[5], n[6])
}

// int is mostly a small one.
func (d *dice) int() int {
	if d.often(1) {
		return []int{least, least + 1, greatest, -1 << 32, 1<<32 + 1, 65536, 65537}[d.below(7)]
	}
	return d.below(13) - 4
}

// move is any, mostly one that a line with a word tells.
func (d *dice) move() api.Move {
	all := spellings()
	s := all[d.below(len(all))]
	mv := api.Move{Thread: d.int(), Op: s.op}
	if s.args > 0 || d.often(1) {
		mv.Arg = d.int()
	}
	if s.args > 1 || d.often(1) {
		mv.Data = d.int()
	}
	switch d.below(12) {
	case 0:
		mv.Op = api.Op(d.int())
	case 1:
		mv.Op = api.OpStep
	}
	return mv
}

// script is one of so many moves, with steps of one thread for a while.
func (d *dice) script(count int) []api.Move {
	var moves []api.Move
	thread := 0
	for len(moves) < count {
		if d.often(3) {
			thread = d.int()
		}
		if d.often(6) {
			moves = append(moves, step(thread))
			continue
		}
		moves = append(moves, d.move())
	}
	return moves
}

// number is mostly one; or a word that begins so, or any.
func (d *dice) number(none int) string {
	if d.below(100) >= none {
		return strconv.Itoa(d.int())
	}
	if d.often(6) {
		return d.one("05", "-0", "5five", "9223372036854775808", "00", "1-", "-9223372036854775809", "0x1")
	}
	return d.one("-", "x", ".", "*", "+5", "--5", "op", "pop", "\xff", "\u0665")
}

// count is an N: mostly a small one that may be.
func (d *dice) count(none int) string {
	if d.below(50) < none {
		return d.one("0", "-1", "65536", "65537", "40000", "30000", "05", "x", "-0")
	}
	return strconv.Itoa(1 + d.below(5))
}

// line is one of any form; of a hundred words so many are wrong.
func (d *dice) line(none int) string {
	words := []string{d.number(none)}
	switch d.below(5) {
	case 0:
		words = append(words, ".")
	case 1:
		words = append(words, ".", d.count(none))
	case 2:
		words = []string{"*", d.count(none)}
	case 3:
		words = append(words, "op", d.number(none), d.number(none), d.number(none))
	default:
		all := spellings()
		s := all[d.below(len(all))]
		words = append(words, s.word)
		for range s.args {
			words = append(words, d.number(none))
		}
	}
	switch at := d.below(len(words)); d.below(1 + 400/(none+1)) {
	case 1:
		words = words[:at]
	case 2:
		words = append(words, d.number(none))
	case 3:
		words[at] = d.one("x", "pop", ".", "*", "machine", "pup", "op")
	}
	return strings.Join(words, " ")
}

// text is a machine's line and some others, of which a few may be wrong.
func (d *dice) text(lines, none int) string {
	out := []string{strings.TrimSuffix(machineOf(d.config()), "\n")}
	for range lines {
		out = append(out, d.line(none))
	}
	switch bad := badConfigs(); d.below(1 + 1000/(none+1)) {
	case 1:
		out[0] = strings.TrimSuffix(machineOf(bad[d.below(len(bad))]), "\n")
	case 2:
		out[0] = strings.Replace(out[0], d.one("threads", "records", "slots ", " cache "), d.one("", " x ", " 1 ", " -"), 1)
	case 3:
		out = out[1:]
	}
	return strings.Join(out, "\n") + d.one("", "\n")
}

// blank is some blanks; none, if there may be none.
func (d *dice) blank(least int) string {
	var b strings.Builder
	for range least + d.below(3) {
		b.WriteString(d.one(" ", " ", "\t", "\r"))
	}
	return b.String()
}

// comment is one that stands alone or behind a blank.
func (d *dice) comment() string {
	return "#" + d.one("", " first", "#", "\t# 0 pop", " machine threads 2", "\xff\u00a0", " .")
}

// dressed is a text with comments, blanks and lines that mean nothing put in; and of each of its lines, from 1 on, the
// number that it has now (0 of line 0).
func (d *dice) dressed(text string) (string, []int) {
	var out strings.Builder
	at, numbers := 1, []int{0}
	for line := range strings.SplitSeq(strings.TrimSuffix(text, "\n"), "\n") {
		for d.often(3) {
			out.WriteString(d.blank(0) + d.one("", "", d.comment()) + "\n")
			at++
		}
		numbers = append(numbers, at)
		out.WriteString(d.blank(0))
		for word := range strings.SplitAfterSeq(line, " ") {
			out.WriteString(strings.TrimSuffix(word, " "))
			if strings.HasSuffix(word, " ") {
				out.WriteString(d.blank(1))
			}
		}
		out.WriteString(d.blank(0) + d.one("", "", " "+d.comment()) + "\n")
		at++
	}
	return out.String() + d.one("", "\n", "#", " "), numbers
}

// The texts have what they are for: such as are read, and each error.
func TestChanceHasAll(t *testing.T) {
	d := dice(80)
	met := map[api.Errno]int{}
	for range 4000 {
		met[parse(d.text(d.below(12), 10*d.below(2))).e]++
	}
	for _, e := range []api.Errno{api.OK, api.ErrLine, api.ErrDigit, api.ErrRange, api.ErrLong, api.ErrConfig} {
		if met[e] < 20 {
			t.Errorf("only %d of the error %d: %v", met[e], e, met)
		}
	}
}

// P17.1: texts by chance are read as the chapter's words say it.
func TestReadsAsThePlainOne(t *testing.T) {
	d := dice(81)
	for range 6000 {
		wantPlain(t, d.text(d.below(12), []int{0, 2, 10, 40}[d.below(4)]))
		if t.Failed() {
			t.FailNow()
		}
	}
}

// P5, P17.1: texts of words by chance, one behind the other, with any blanks.
func TestReadsAnyWords(t *testing.T) {
	d := dice(82)
	words := []string{"machine", machine, "0", "1", "5", "-5", "05", "-", ".", "*", "op", "pop", "push", "add", "x", "#", "\n", "\n", "\n", "\xff", "\u00a0"}
	for range 20000 {
		var text strings.Builder
		if d.often(8) {
			text.WriteString(machine)
		}
		for range d.below(14) {
			text.WriteString(d.one(words...) + d.blank(d.below(2)))
		}
		wantPlain(t, text.String())
		if t.Failed() {
			t.FailNow()
		}
	}
}
