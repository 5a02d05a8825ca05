package script_test

import (
	"math/big"
	"regexp"
	"slices"
	"strings"
	"testing"

	"reclaim/api"
	"reclaim/word"
)

// The chapter's text as patterns, over lines whose words have one blank between: a ? stands for what a number's place
// must begin with.
func pattern(s string) *regexp.Regexp {
	return regexp.MustCompile(`^` + strings.ReplaceAll(s, "?", `(-?[0-9][^ ]*)`) + `$`)
}

var (
	comment    = regexp.MustCompile(`(?s)(^|[ \t\r])#.*$`)
	blankSpace = regexp.MustCompile(`[ \t\r]+`)
	number     = regexp.MustCompile(`^(0|-?[1-9][0-9]*)$`)

	machineLine = pattern(`machine threads ? records ? hazards ? retire ? cache ? slots ? buckets ?`)
	stepLine    = pattern(`? \.`)
	stepsLine   = pattern(`? \. ?`)
	roundsLine  = pattern(`\* ?`)
	opLine      = pattern(`? op ? ? ?`)
)

// wordLines are the patterns of the words' lines, in the order of spellings.
var wordLines = func() []*regexp.Regexp {
	var out []*regexp.Regexp
	for _, s := range spellings() {
		out = append(out, pattern(`? `+s.word+strings.Repeat(` ?`, s.args)))
	}
	return out
}()

// ints are the numbers that words are; false: one is none.
func ints(words []string) ([]int, bool) {
	var out []int
	for _, w := range words {
		n, ok := new(big.Int).SetString(w, 10)
		if !number.MatchString(w) || !ok || !n.IsInt64() {
			return nil, false
		}
		out = append(out, int(n.Int64()))
	}
	return out, true
}

// plainMachine is what a machine's line tells.
func plainMachine(line string) (api.Config, api.Errno) {
	m := machineLine.FindStringSubmatch(line)
	if m == nil {
		return api.Config{}, api.ErrLine
	}
	n, ok := ints(m[1:])
	if !ok {
		return api.Config{}, api.ErrDigit
	}
	c := configOf(n[0], n[1], n[2], n[3], n[4], n[5], n[6])
	return c, word.Check(c)
}

// plainLine is what another line tells.
func plainLine(c api.Config, line string) ([]api.Move, api.Errno) {
	for form, p := range append([]*regexp.Regexp{stepLine, stepsLine, roundsLine, opLine}, wordLines...) {
		m := p.FindStringSubmatch(line)
		if m == nil {
			continue
		}
		n, ok := ints(m[1:])
		if !ok {
			return nil, api.ErrDigit
		}
		return plainMoves(c, form, n)
	}
	return nil, api.ErrLine
}

func plainMoves(c api.Config, form int, n []int) ([]api.Move, api.Errno) {
	times := n[len(n)-1]
	if (form == 1 || form == 2) && (times < 1 || times > 65536) {
		return nil, api.ErrRange
	}
	switch form {
	case 0:
		return steps(n[0], 1), api.OK
	case 1:
		return steps(n[0], times), api.OK
	case 2:
		var moves []api.Move
		for i := range min(times*c.Threads, 65537) { // more are too many in any case
			moves = append(moves, step(i%c.Threads))
		}
		return moves, api.OK
	case 3:
		return []api.Move{{Thread: n[0], Op: api.Op(n[1]), Arg: n[2], Data: n[3]}}, api.OK
	}
	n = append(n, 0, 0)
	return []api.Move{{Thread: n[0], Op: spellings()[form-4].op, Arg: n[1], Data: n[2]}}, api.OK
}

// plain reads a text as the chapter's words say it.
func plain(text string) read {
	if len(text) > 1<<20 {
		return read{e: api.ErrLong}
	}
	var r read
	met := false
	for i, line := range strings.Split(text, "\n") {
		line = strings.Trim(blankSpace.ReplaceAllString(comment.ReplaceAllString(line, ""), " "), " ")
		if line == "" {
			continue
		}
		var e api.Errno
		var moves []api.Move
		if !met {
			met = true
			r.c, e = plainMachine(line)
		} else {
			moves, e = plainLine(r.c, line)
		}
		r.moves = append(r.moves, moves...)
		if e == api.OK && len(r.moves) > 65536 {
			e = api.ErrLong
		}
		if e != api.OK {
			return read{line: i + 1, e: e}
		}
	}
	if !met {
		return read{e: api.ErrEarlyEnd}
	}
	return r
}

// wantPlain asks for what the chapter's words say.
func wantPlain(t *testing.T, text string) read {
	t.Helper()
	r := parse(text)
	if want := plain(text); !r.same(want) {
		t.Errorf("%q: %d moves, %+v, not %d, %+v", short(text), len(r.moves), r.brief(), len(want.moves), want.brief())
	}
	return r
}

// P17.1: all short lines out of what lines are made of.
func TestAllShortLines(t *testing.T) {
	signs := []string{" ", "\n", "\t", "\r", "#", "0", "1", "5", "-", ".", "*", "x", "pop", "push", "add", "op", "\xff"}
	lists := [][]string{{""}}
	for range 4 {
		var next []string
		for _, s := range lists[len(lists)-1] {
			for _, sign := range signs {
				next = append(next, s+sign)
			}
		}
		lists = append(lists, next)
	}
	met := map[api.Errno]int{}
	for _, s := range slices.Concat(lists...) {
		met[wantPlain(t, machine+s).e]++
		if len(s) < 3 {
			wantPlain(t, s+machine)
			wantPlain(t, s)
		}
		if t.Failed() {
			t.FailNow()
		}
	}
	for _, e := range []api.Errno{api.OK, api.ErrLine, api.ErrDigit} {
		if met[e] < 100 {
			t.Errorf("only %d of the error %d", met[e], e)
		}
	}
}

// P17.1: all texts of two bytes behind a line's beginning.
func TestAllBytes(t *testing.T) {
	for one := range 256 {
		for _, two := range []int{0, 9, 10, 11, 13, 32, 35, 42, 45, 46, 48, 53, 57, 58, 0x80, 0xa0, 0xff} {
			s := string([]byte{byte(one), byte(two)})
			for _, ahead := range []string{"", "0 push", "0 push ", "0 push 5", "* ", "0 "} {
				wantPlain(t, machine+ahead+s)
				wantPlain(t, machine+ahead+s+"5\n0 pop")
			}
		}
		if t.Failed() {
			t.FailNow()
		}
	}
}

// P5, P17.1: any text.
func FuzzParse(f *testing.F) {
	for _, x := range meanings() {
		f.Add(machine + x.line)
		f.Add(machine + x.line + " # first\n\n" + x.line + "\r\n")
	}
	for _, line := range append(places(), counts()...) {
		for _, s := range slices.Concat(noNumbers(), notDigits()) {
			if len(s) < 100 {
				f.Add(machine + put(line, s))
			}
		}
	}
	f.Fuzz(func(t *testing.T, text string) { wantBack(t, wantPlain(t, text)) })
}
