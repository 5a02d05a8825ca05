package tower_test

import (
	"fmt"
	"slices"
	"strings"
	"testing"

	"reclaim/api"
	"reclaim/pool"
	"reclaim/replay"
	"reclaim/script"
	"reclaim/tower"
)

// P18.1, G6, G8: the transcript of a text is the report of its run, also where the run is made by goroutines.
func TestTranscriptIsTheReport(t *testing.T) {
	d := dice(91)
	for range 300 {
		c := d.config()
		moves := d.script(c, d.below(600))
		text, e := script.Print(c, moves)
		if e != api.OK {
			t.Fatal(e)
		}
		run, _ := pool.Play(c, moves)
		same, _ := replay.Play(c, moves)
		want, e := tower.Report(c, run)
		if e != api.OK {
			t.Fatalf("%s: %d", short(text), e)
		}
		wantRun(t, text, want)
		(&tale{c: c, r: same}).wantText(t, "by goroutines", want)
		if t.Failed() {
			t.FailNow()
		}
	}
}

// P18.1: a text that is written in other ways has the same transcript: with blanks, comments and lines that mean
// nothing, with steps and rounds taken together or one by one, with moves by their numbers.
func TestOtherWays(t *testing.T) {
	d := dice(92)
	for range 300 {
		c := d.config()
		moves := d.script(c, d.below(500))
		text, _ := script.Print(c, moves)
		want := ran(t, text)
		for range 4 {
			wantRun(t, d.written(c, moves), want)
		}
		if t.Failed() {
			t.FailNow()
		}
	}
}

// P18.1: the ways by hand.
func TestOtherWaysByHand(t *testing.T) {
	const first = "machine threads 2 records 2 hazards 3 retire 1 cache 0 slots 4 buckets 1\n"
	want := ran(t, first+"0 register\n1 register\n0 .\n1 .\n0 .\n1 .\n0 .\n1 .\n0 .\n1 .\n0 push 5\n0 . 7\n")
	for _, text := range []string{
		first + "0 register\n1 register\n* 4\n0 push 5\n0 . 7\n",
		first + "0 register\n1 register\n* 1\n* 3\n0 push 5\n0 . 3\n0 . 4",
		first + "0 register\n1 register\n* 2\n0 . 1\n1 .\n* 1\n0 push 5\n0 .\n0 .\n0 .\n0 .\n0 .\n0 .\n0 .\n",
		"# a push\n\n" + first + "\t0  register # of a record\r\n\n1 register\n#\n* 4\n 0 push 5 # five\n0 . 7\n\n\n",
		first + "0 op 20 0 0\n1 op 20 0 0\n* 4\n0 op 30 5 0\n0 op 0 0 0\n0 . 6\n",
		strings.ReplaceAll(first, " ", " \t ") + "0 register\n1 register\n* 4\n0 push 5\n0 . 7",
	} {
		wantRun(t, text, want)
	}
	for _, text := range []string{
		first + "0 register\n1 register\n* 4\n0 push 6\n0 . 7\n", first + "0 register\n1 register\n* 5\n0 push 5\n0 . 7\n", first + "1 register\n0 register\n* 4\n0 push 5\n0 . 7\n",
		first + "0 register\n1 register\n* 4\n0 push 5\n0 . 6\n", strings.Replace(first, "slots 4", "slots 5", 1) + "0 register\n1 register\n* 4\n0 push 5\n0 . 7\n",
	} {
		if got := ran(t, text); got == want {
			t.Errorf("%q has the transcript of another text", text)
		}
	}
}

// P18.1: moves that do nothing leave no trace but in the numbers of moves; what a move's op doesn't use isn't told.
func TestIdleMoves(t *testing.T) {
	want := ran(t, machine+"0 register\n0 . 2\n0 push 5\n0 . 7\n")
	for _, more := range []string{"0 . 90\n", "7 pop\n-1 .\n", "0 op 99 1 2\n0 .\n", "0 look 0\n0 bump 0\n", "5 . 65000\n"} {
		wantRun(t, machine+"0 register\n0 . 2\n0 push 5\n0 . 7\n"+more, want)
	}
	got := ran(t, machine+"0 op 20 3 4\n0 . 2\n0 op 30 5 9\n0 . 7\n")
	if got != want {
		t.Errorf("%s, not\n%s", got, want)
	}
}

// tells reads a line's numbers by a form of fmt.
func tells(t *testing.T, text, form string, numbers ...any) {
	t.Helper()
	first, _, _ := strings.Cut(form, " ")
	l := linesOf(text, first)
	if len(l) != 1 {
		t.Fatalf("%d lines of %s in\n%s", len(l), first, short(text))
	}
	if _, e := fmt.Sscanf(l[0], form, numbers...); e != nil {
		t.Fatalf("%q: %v", l[0], e)
	}
}

// peaks and bounds are the numbers of those lines.
type peaks struct{ cached, owned, linked, detached, retired, gap, steps int }

type bounds struct{ listed, retired, solo, window int }

// wantRule asks a transcript for what those of scripts never tell.
func wantRule(t *testing.T, text string) (peaks, bounds) {
	t.Helper()
	var p peaks
	var b bounds
	tells(t, text, "peaks cached %d owned %d linked %d detached %d retired %d gap %d steps %d", &p.cached, &p.owned, &p.linked, &p.detached, &p.retired, &p.gap, &p.steps)
	tells(t, text, "bounds listed %d retired %d solo %d window %d", &b.listed, &b.retired, &b.solo, &b.window)
	order := linesOf(text, "order")
	switch {
	case len(linesOf(text, "fault")) != 0 || strings.HasPrefix(text, "fault"):
		t.Errorf("a fault in\n%s", short(text))
	case len(order) != 1 || !strings.HasSuffix(order[0], " explains"):
		t.Errorf("%q in\n%s", order, short(text))
	case !slices.Equal(linesOf(text, "dishonest"), []string{"dishonest -"}):
		t.Errorf("dishonest in\n%s", short(text))
	case p.retired > b.retired || p.gap >= b.window:
		t.Errorf("%+v, %+v in\n%s", p, b, short(text))
	}
	return p, b
}

// P18.3: over many texts; and that they have what could break it.
func TestWhatTranscriptsNeverTell(t *testing.T) {
	d := dice(93)
	var most peaks
	met := map[string]int{}
	for range 700 {
		c := d.config()
		if d.often(2) {
			c = configOf(1+d.below(16), 1+d.below(16), 3+d.below(6), 1+d.below(20), d.below(8), 1+d.below(60), 1+d.below(9))
		}
		text := ran(t, d.written(c, d.script(c, d.below(1500))))
		p, _ := wantRule(t, text)
		most = peaks{max(most.cached, p.cached), max(most.owned, p.owned), max(most.linked, p.linked), max(most.detached, p.detached), max(most.retired, p.retired), max(most.gap, p.gap), max(most.steps, p.steps)}
		for _, line := range linesOf(text, "call") {
			w := strings.Fields(line)
			met[w[len(w)-1]]++
		}
		if t.Failed() {
			t.FailNow()
		}
	}
	if most.cached < 3 || most.owned < 3 || most.linked < 8 || most.detached < 2 || most.retired < 6 || most.gap < 60 || most.steps < 40 {
		t.Errorf("only %+v", most)
	}
	for _, answer := range []string{"-", "done", "empty", "full", "yes", "no"} {
		if met[answer] < 200 {
			t.Errorf("only %d times %s", met[answer], answer)
		}
	}
}

// P18.3: longer texts.
func TestWhatLongTranscriptsNeverTell(t *testing.T) {
	d := dice(94)
	for range 6 {
		c := configOf(2+d.below(15), 1+d.below(16), 3, 1+d.below(40), d.below(5), 2+d.below(300), 1+d.below(64))
		text := d.written(c, d.script(c, 65536))
		if len(text) > api.MaxText {
			t.Fatalf("%d bytes", len(text))
		}
		wantRule(t, ran(t, text))
	}
}

// FuzzRun looks for texts that panic, that are refused otherwise than Parse refuses them, or whose transcripts tell
// what none does.
func FuzzRun(f *testing.F) {
	d := dice(95)
	for range 20 {
		c := d.config()
		f.Add(d.written(c, d.script(c, d.below(80))))
	}
	f.Add("")
	f.Add("0 pop")
	f.Fuzz(func(t *testing.T, text string) {
		c, moves, line, e := script.Parse(text)
		if e != api.OK {
			wantNoRun(t, text, line, e)
			return
		}
		got, at, e := tower.Run(text)
		if at != 0 || e != api.OK && (e != api.ErrLong || got != "") {
			t.Fatalf("%q: %q, %d, %d", short(text), short(got), at, e)
		}
		if e == api.OK {
			wantRule(t, got)
			played(t, c, moves).wantText(t, "its run", got)
		}
	})
}
