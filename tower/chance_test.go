package tower_test

import (
	"slices"
	"strconv"
	"strings"

	"reclaim/api"
	"reclaim/script"
)

// dice are the same numbers each time.
type dice uint64

func (d *dice) below(n int) int {
	*d = *d*6364136223846793005 + 1442695040888963407
	return int(uint64(*d) >> 33 % uint64(n))
}

// often tells so in so many of ten cases.
func (d *dice) often(of10 int) bool { return d.below(10) < of10 }

func (d *dice) one(of ...string) string { return of[d.below(len(of))] }

// number is mostly a small one.
func (d *dice) number() int {
	if d.often(1) {
		return []int{least, least + 1, greatest, -1 << 32, 1<<32 + 1, -100}[d.below(6)]
	}
	return d.below(9) - 2
}

// config is a small one, so that calls meet.
func (d *dice) config() api.Config {
	return configOf(1+d.below(5), 1+d.below(5), 3+d.below(2), 1+d.below(6), d.below(4), 1+d.below(12), 1+d.below(3))
}

// Scripts.

func step(thread int) api.Move { return api.Move{Thread: thread, Op: api.OpStep} }

func steps(thread, count int) []api.Move { return slices.Repeat([]api.Move{step(thread)}, count) }

// round is a step of each thread.
func round(c api.Config) []api.Move {
	var moves []api.Move
	for thread := range c.Threads {
		moves = append(moves, step(thread))
	}
	return moves
}

// poolOps are the ops of a pool, those of objects twice.
func poolOps() []api.Op {
	objects := []api.Op{
		api.OpPost, api.OpRead, api.OpPush, api.OpPop, api.OpEnqueue, api.OpDequeue, api.OpInsert, api.OpDelete, api.OpContains, api.OpAdd, api.OpRemove, api.OpGet,
	}
	return slices.Concat(objects, objects, []api.Op{api.OpTake, api.OpGive, api.OpFlush, api.OpClear, api.OpScan, api.OpRegister})
}

// script is so many moves, of threads that make a few steps at a time, so that calls stay on their way for others to
// come by; some make many, so that calls come to their ends. Some moves do nothing.
func (d *dice) script(c api.Config, count int) []api.Move {
	var moves []api.Move
	for thread := range c.Threads {
		moves = append(append(moves, api.Move{Thread: thread, Op: api.OpRegister}), steps(thread, 2*c.Records)...)
	}
	most := 1 + d.below(14)
	for len(moves) < count {
		thread := d.below(c.Threads)
		if d.often(6) {
			moves = append(moves, d.begin(c, thread))
		}
		n := 1 + d.below(most)
		if d.below(8) == 0 {
			n *= 6
		}
		moves = append(moves, steps(thread, n)...)
		if d.often(1) {
			moves = append(moves, round(c)...)
		}
	}
	return moves[:count]
}

// begin is a call; now and then one that there isn't, or of a thread that there isn't.
func (d *dice) begin(c api.Config, thread int) api.Move {
	all := poolOps()
	mv := api.Move{Thread: thread, Op: all[d.below(len(all))], Arg: d.below(6), Data: d.below(100)}
	if mv.Op == api.OpGive {
		mv.Arg = d.below(c.Slots)
	}
	switch d.below(40) {
	case 0:
		mv.Op = api.OpUnregister
	case 1:
		mv.Op = api.Op(d.number())
	case 2:
		mv.Thread = d.number()
	case 3:
		mv.Arg, mv.Data = d.number(), d.number()
	}
	return mv
}

// Texts.

// written is a text of a script, in one of the many ways in which it can be written.
func (d *dice) written(c api.Config, moves []api.Move) string {
	head, _ := script.Print(c, nil)
	var text strings.Builder
	text.WriteString(d.dressed(strings.TrimSuffix(head, "\n")))
	for len(moves) > 0 {
		line, count := d.line(c, moves)
		text.WriteString(d.dressed(line))
		moves = moves[count:]
	}
	return text.String()
}

// line is a line of the moves that come next, and how many it has.
func (d *dice) line(c api.Config, moves []api.Move) (string, int) {
	mv := moves[0]
	thread := strconv.Itoa(mv.Thread)
	rounds := 0
	for rest := moves; len(rest) >= c.Threads && slices.Equal(rest[:c.Threads], round(c)); rest = rest[c.Threads:] {
		rounds++
	}
	if rounds > 0 && d.often(7) {
		n := 1 + d.below(rounds)
		return "* " + strconv.Itoa(n), n * c.Threads
	}
	same := 0
	for same < len(moves) && moves[same] == step(mv.Thread) {
		same++
	}
	if same > 0 && d.often(9) {
		if n := 1 + d.below(same); n > 1 || d.often(5) {
			return thread + " . " + strconv.Itoa(n), n
		}
		return thread + " .", 1
	}
	printed, _ := script.Print(c, moves[:1])
	_, line, _ := strings.Cut(strings.TrimSuffix(printed, "\n"), "\n")
	if d.often(1) {
		line = thread + " op " + strconv.Itoa(int(mv.Op)) + " " + strconv.Itoa(mv.Arg) + " " + strconv.Itoa(mv.Data)
	}
	return line, 1
}

// dressed is a line with blanks and a comment put in, and lines that mean nothing ahead of it.
func (d *dice) dressed(line string) string {
	var out strings.Builder
	for d.often(1) {
		out.WriteString(d.one("\n", " \n", "# 0 pop\n", "\t#\n", "\r\n"))
	}
	if d.often(1) {
		out.WriteString(d.one(" ", "\t", "  \r"))
	}
	if d.often(1) {
		line = strings.ReplaceAll(line, " ", d.one("  ", "\t", " \t\r"))
	}
	return out.String() + line + d.one("", "", "", " ", "\r", " # and on", " #") + "\n"
}

// Runs that are no machine's.

// spoilt is a tale in which a few numbers are others; most of them still go together.
func (d *dice) spoilt(x *tale) *tale {
	out := &tale{c: x.c, r: cloneRun(x.r)}
	for range 1 + d.below(3) {
		switch d.below(6) {
		case 0, 1:
			d.spoilCall(out)
		case 2:
			d.spoilShifts(out)
		case 3:
			d.store(out)
		case 4:
			d.shift(out, api.State(d.below(6)))
		case 5:
			d.giveBack(out)
		}
	}
	return out
}

func cloneRun(r api.Run) api.Run {
	return api.Run{Calls: slices.Clone(r.Calls), Trace: slices.Clone(r.Trace), Shifts: slices.Clone(r.Shifts), Words: slices.Clone(r.Words)}
}

// answers are those that a call may have that has ended.
func answers() []api.Answer {
	return []api.Answer{done, empty, full, yes, no, value(0), value(3), value(-7)}
}

func (d *dice) spoilCall(x *tale) {
	if len(x.r.Calls) == 0 {
		return
	}
	c := &x.r.Calls[d.below(len(x.r.Calls))]
	switch d.below(6) {
	case 0:
		c.Op = api.Op(d.below(70) - 1)
	case 1:
		c.Arg, c.Data = d.number(), d.number()
	case 2:
		c.Point = c.Begin + d.below(9)
	case 3:
		c.Point = -1
	case 4, 5:
		if all := answers(); c.End >= 0 {
			c.Answer = all[d.below(len(all))]
		}
	}
}

// spoilShifts leaves the last shifts out, and now and then spoils one.
func (d *dice) spoilShifts(x *tale) {
	if len(x.r.Shifts) == 0 {
		return
	}
	x.r.Shifts = x.r.Shifts[:d.below(len(x.r.Shifts)+1)]
	if n := len(x.r.Shifts); n > 0 && d.often(5) {
		x.r.Shifts[n-1].To = api.State(d.below(6))
	}
}

// last is a move behind all that a run has, and a call that is on its way then; false: there is none.
func last(r api.Run) (int, api.Call, bool) {
	move, on, is := 0, api.Call{}, false
	for _, c := range r.Calls {
		move = max(move, c.Begin, c.End, c.Point)
		if c.End == -1 {
			on, is = c, true
		}
	}
	for _, a := range r.Trace {
		move = max(move, a.Move)
	}
	for _, s := range r.Shifts {
		move = max(move, s.Move)
	}
	return move + 1, on, is
}

// store lets a call write some word at the end.
func (d *dice) store(x *tale) {
	move, c, is := last(x.r)
	if !is {
		return
	}
	x.store(move, c.Thread, d.below(len(x.r.Words)), []uint64{0, 1, 2, link(d.below(x.c.Slots)), 1<<32 + 1, 1 << 40}[d.below(6)])
}

// shift lets a call turn some slot at the end, in a move for each state.
func (d *dice) shift(x *tale, to ...api.State) {
	slot, from := d.below(x.c.Slots), free
	if slot == 0 {
		from = linked
	}
	for _, s := range x.r.Shifts {
		if s.Slot == slot {
			from = s.To
		}
	}
	for _, state := range to {
		move, c, is := last(x.r)
		if !is {
			return
		}
		x.r.Shifts = append(x.r.Shifts, api.Shift{Move: move, Thread: c.Thread, Slot: slot, From: from, To: state})
		from = state
	}
}

// giveBack lets a hazard name some slot at the end, and has some slot come and go.
func (d *dice) giveBack(x *tale) {
	if move, c, is := last(x.r); is {
		x.store(move, c.Thread, addrOf(x.c, api.RegionHazard, d.below(x.c.Records), d.below(x.c.Hazards)), link(d.below(x.c.Slots)))
	}
	d.shift(x, linked, detached, retired, []api.State{free, cached}[d.below(2)])
}
