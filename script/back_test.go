package script_test

import (
	"slices"
	"strings"
	"testing"

	"reclaim/api"
	"reclaim/script"
)

// wantBack asks that what was read, printed, is read as the same, if it is read and printed at all.
func wantBack(t *testing.T, r read) {
	t.Helper()
	if r.e != api.OK {
		return
	}
	text, e := script.Print(r.c, r.moves)
	if e != api.OK {
		if e != api.ErrLong || text != "" {
			t.Errorf("%+v: %q, %d", r.brief(), short(text), e)
		}
		return
	}
	if back := parse(text); !back.same(r) {
		t.Errorf("%d moves, %+v, printed %q, are read as %d, %+v", len(r.moves), r.brief(), short(text), len(back.moves), back.brief())
	}
	if again, e := script.Print(r.c, r.moves); again != text || e != api.OK {
		t.Errorf("%q, then %q, %d", short(text), short(again), e)
	}
}

// P17.3: what is printed is read as what went in, of many scripts.
func TestPrintedIsRead(t *testing.T) {
	d := dice(90)
	for range 2000 {
		c, moves := d.config(), d.script(d.below(60))
		text, e := script.Print(c, moves)
		if e != api.OK {
			t.Fatalf("%+v with %v: %d", c, moves, e)
		}
		wantRead(t, text, c, moves...)
		wantPlain(t, text)
		wantTidy(t, text)
		if t.Failed() {
			t.FailNow()
		}
	}
}

// wantTidy asks that a printed text has one blank between words, no comments, each line ended by a newline, and no two
// lines of steps of one thread one behind the other.
func wantTidy(t *testing.T, text string) {
	t.Helper()
	lines := strings.SplitAfter(text, "\n")
	if last := lines[len(lines)-1]; last != "" {
		t.Errorf("%q isn't ended", last)
	}
	before := ""
	for _, line := range lines[:len(lines)-1] {
		if strings.Join(strings.Fields(line), " ")+"\n" != line || strings.Contains(line, "#") {
			t.Errorf("%q", line)
		}
		thread, _, steps := strings.Cut(strings.TrimSuffix(line, "\n"), " .")
		if steps && thread == before {
			t.Errorf("%q: the steps of thread %s are parted", short(text), thread)
		}
		if before = thread; !steps {
			before = ""
		}
	}
}

// P17.3: long scripts, of each kind of lines.
func TestLongScriptsThereAndBack(t *testing.T) {
	d := dice(91)
	for range 6 {
		wantBack(t, read{c: d.config(), moves: d.script(65536 - d.below(3))})
	}
	for _, moves := range [][]api.Move{
		nil, steps(0, 65536), slices.Repeat([]api.Move{pop(0)}, 65536), slices.Repeat([]api.Move{step(0), step(1)}, 32768),
		slices.Repeat([]api.Move{{Op: api.OpPop, Arg: 1}}, 65536), slices.Repeat([]api.Move{{Arg: 1}, {}}, 32768),
	} {
		wantBack(t, read{c: example(), moves: moves})
	}
}

// P17.3: what is read and printed is read as the same, of many texts.
func TestReadIsPrinted(t *testing.T) {
	d := dice(92)
	printed := 0
	for range 4000 {
		r := parse(d.text(d.below(15), d.below(2)))
		wantBack(t, r)
		if r.e == api.OK {
			printed++
		}
		if t.Failed() {
			t.FailNow()
		}
	}
	if printed < 1000 {
		t.Errorf("only %d texts are read", printed)
	}
	for _, x := range meanings() {
		wantBack(t, parse(machine+x.line))
	}
}

// P17.2, P17.3: rounds are printed step by step: a text that is read may have a script whose own text would be too long.
func TestReadAndNotPrinted(t *testing.T) {
	line := "-9223372036854775808 op -9223372036854775808 -9223372036854775808 -9223372036854775808\n"
	ahead := threads(16) + strings.Repeat(line, 11000)
	for _, x := range []struct {
		rounds string
		e      api.Errno
	}{{"* 1\n", api.OK}, {"* 1000\n", api.OK}, {"* 3000\n", api.ErrLong}} {
		r := parse(ahead + x.rounds)
		if r.e != api.OK {
			t.Fatalf("%s: %+v", x.rounds, r.brief())
		}
		if text, e := script.Print(r.c, r.moves); e != x.e || (text == "") != (e != api.OK) {
			t.Errorf("%s: %d bytes, %d", x.rounds, len(text), e)
		}
		wantBack(t, r)
	}
}

// P17.3: comments, blanks between words and around them, and lines that mean nothing change nothing but lines' numbers.
func TestDressedTexts(t *testing.T) {
	d := dice(93)
	met := map[api.Errno]int{}
	for range 5000 {
		text := d.text(d.below(10), []int{0, 0, 5, 20}[d.below(4)])
		r := parse(text)
		met[r.e]++
		dressed, numbers := d.dressed(text)
		r.line = numbers[r.line]
		if got := parse(dressed); !got.same(r) {
			t.Fatalf("%q, that is %q: %+v, not %+v", text, dressed, got.brief(), r.brief())
		}
	}
	for _, e := range []api.Errno{api.OK, api.ErrLine, api.ErrDigit, api.ErrRange} {
		if met[e] < 100 {
			t.Errorf("only %d of the error %d", met[e], e)
		}
	}
}

// P17.3: likewise of texts that were printed.
func TestDressedPrints(t *testing.T) {
	d := dice(94)
	for range 1000 {
		c, moves := d.config(), d.script(d.below(40))
		text, e := script.Print(c, moves)
		if e != api.OK {
			t.Fatal(e)
		}
		dressed, _ := d.dressed(text)
		wantRead(t, dressed, c, moves...)
		if t.Failed() {
			t.FailNow()
		}
	}
}
