package replay_test

import (
	"bytes"
	"cmp"
	"runtime"
	"slices"
	"sync"
	"testing"
	"time"

	"reclaim/api"
	"reclaim/replay"
)

// eachProcs does something with several numbers of goroutines that can run at the same time.
func eachProcs(t *testing.T, do func()) {
	t.Helper()
	defer runtime.GOMAXPROCS(runtime.GOMAXPROCS(0))
	for _, procs := range []int{1, 2, 3, 16} {
		runtime.GOMAXPROCS(procs)
		do()
	}
}

// P16.4: Play is what pool.Play tells, however the goroutines run, again and again.
func TestPlayIsThePools(t *testing.T) {
	eachProcs(t, func() {
		d := dice(61)
		for range 150 {
			c := d.config(api.MaxThreads)
			moves := d.script(c, d.below(600))
			want := plain(t, c, moves)
			for range 4 {
				wantPlay(t, "a script by chance", c, moves, want)
			}
			if t.Failed() {
				t.FailNow()
			}
		}
	})
}

// P16.4: one script, many times.
func TestOneScriptManyTimes(t *testing.T) {
	d := dice(62)
	c := threads(8)
	moves := d.script(c, 400)
	want := plain(t, c, moves)
	eachProcs(t, func() {
		for range 150 {
			wantPlay(t, "the same script", c, moves, want)
		}
	})
}

// P16.4: Batch is what Play tells of each script, for every number of workers.
func TestBatchIsPlays(t *testing.T) {
	eachProcs(t, func() {
		d := dice(63)
		for range 6 {
			c := d.config(6)
			scripts := d.scripts(c, d.below(30), 300)
			var want []api.Run
			for _, moves := range scripts {
				run, e := replay.Play(c, moves)
				if e != api.OK {
					t.Fatal(e)
				}
				want = append(want, run)
			}
			if !sameRuns(want, plains(t, c, scripts)) {
				t.Fatalf("Play is not the pool's")
			}
			for workers := 1; workers <= api.MaxThreads; workers++ {
				wantBatch(t, "scripts by chance", c, scripts, workers, want)
			}
			if t.Failed() {
				t.FailNow()
			}
		}
	})
}

// asked are the answers that a run's calls have, and some that they don't.
func asked(r api.Run) []api.Answer {
	list := []api.Answer{none, done, empty, full, yes, no, value(0), value(-100), value(greatest), {Kind: api.AnswerYes, Value: 1}}
	for _, call := range r.Calls {
		list = append(list, call.Answer)
	}
	slices.SortFunc(list, func(a, b api.Answer) int {
		return cmp.Or(cmp.Compare(a.Kind, b.Kind), cmp.Compare(a.Value, b.Value))
	})
	return slices.Compact(list)
}

// P16.3, P16.4: Until ends with the first end of such a call, and is Play of the beginning that it tells the length of.
func TestUntilIsABeginning(t *testing.T) {
	met := [3]int{} // of scripts that are cut, that aren't, that are cut with other calls on their way
	eachProcs(t, func() {
		d := dice(64)
		for range 60 {
			c := d.config(5)
			moves := d.script(c, d.below(400))
			for _, a := range asked(plain(t, c, moves)) {
				run, n, e := replay.Until(c, moves, a)
				if want := firstEnd(t, c, moves, a); e != api.OK || n != want {
					t.Fatalf("%d of %d moves up to %+v, %d, not %d", n, len(moves), a, e, want)
				}
				whole, e := replay.Play(c, moves[:n])
				if e != api.OK || !sameRun(run, whole) {
					t.Fatalf("up to %+v: %+v, not %+v, %d", a, brief(run), brief(whole), e)
				}
				switch open := slices.ContainsFunc(run.Calls, func(call api.Call) bool { return call.End < 0 }); {
				case n == len(moves):
					met[1]++
				case open:
					met[2]++
				default:
					met[0]++
				}
			}
		}
	})
	if slices.Min(met[:]) < 100 {
		t.Errorf("met: %v", met)
	}
}

// replays are the stacks of the goroutines, beside the one that asks, that are in package replay; waiting ones alone,
// if only those are asked for: the others may be on their way out.
func replays(waiting bool) [][]byte {
	buf := make([]byte, 1<<20)
	buf = buf[:runtime.Stack(buf, true)]
	var out [][]byte
	for _, stack := range bytes.Split(buf, []byte("\n\n"))[1:] {
		header, _, _ := bytes.Cut(stack, []byte("\n"))
		waits := bytes.Contains(header, []byte("[select")) || bytes.Contains(header, []byte("[chan")) || bytes.Contains(header, []byte("[sync"))
		if bytes.Contains(stack, []byte("reclaim/replay.")) && (waits || !waiting) {
			out = append(out, stack)
		}
	}
	return out
}

// wantNoReplays asks that no goroutine waits for anything in package replay, and that all have gone in a moment: they
// have told their end when a call answers, and may still be on their last way.
func wantNoReplays(t *testing.T, what string) {
	t.Helper()
	if left := replays(true); len(left) != 0 {
		t.Fatalf("%s: %d goroutines wait:\n%s", what, len(left), left[0])
	}
	for range 1000 {
		if len(replays(false)) == 0 {
			return
		}
		time.Sleep(time.Millisecond)
	}
	t.Fatalf("%s: %d goroutines are left", what, len(replays(false)))
}

// All goroutines have ended when a call answers: with an error too, with a script that is cut, with workers that have
// nothing to do.
func TestGoroutinesHaveEnded(t *testing.T) {
	c := threads(16)
	d := dice(65)
	eachProcs(t, func() {
		for range 4 {
			moves := d.script(c, 400)
			replay.Play(c, moves)
			wantNoReplays(t, "Play")
			replay.Play(c, nil)
			wantNoReplays(t, "Play of no moves")
			replay.Play(c, idles(api.MaxMoves+1))
			wantNoReplays(t, "Play of too many moves")
			for _, a := range []api.Answer{none, value(0), value(9), done, empty, full, no} {
				replay.Until(c, moves, a)
				wantNoReplays(t, "Until")
			}
			for _, workers := range []int{0, 1, 3, 16, 17} {
				replay.Batch(c, [][]api.Move{moves, moves[:100], nil, moves[50:]}, workers)
				wantNoReplays(t, "Batch")
				replay.Batch(c, nil, workers)
				wantNoReplays(t, "Batch of no scripts")
			}
		}
	})
}

// P16.4, P6: calls that are made at the same time, of the same lists, answer what each of them does alone.
func TestCallsAtTheSameTime(t *testing.T) {
	d := dice(66)
	c := threads(4)
	scripts := append(d.scripts(c, 9, 300), d.script(c, 300))
	moves := scripts[9]
	want, n := plains(t, c, scripts), firstEnd(t, c, moves, empty)
	cut := plain(t, c, moves[:n])
	var all sync.WaitGroup
	for i := range 24 {
		all.Go(func() {
			for range 5 {
				if runs, e := replay.Batch(c, scripts, 1+i%16); e != api.OK || !sameRuns(runs, want) {
					t.Errorf("Batch: %d runs, %d", len(runs), e)
				}
				if run, e := replay.Play(c, moves); e != api.OK || !sameRun(run, want[9]) {
					t.Errorf("Play: %+v, %d", brief(run), e)
				}
				if run, made, e := replay.Until(c, moves, empty); e != api.OK || made != n || !sameRun(run, cut) {
					t.Errorf("Until: %d, %+v, %d", made, brief(run), e)
				}
			}
		})
	}
	all.Wait()
}
