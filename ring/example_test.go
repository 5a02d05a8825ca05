package ring_test

import (
	"slices"
	"testing"

	"reclaim/api"
	"reclaim/ring"
	"reclaim/witness"
)

// The chapter's example 1, access by access.
func TestExampleOne(t *testing.T) {
	w := wheelOf(t, example())
	w.wantWords(t, 0, 0, 0, 0, 1, 0)
	w.tells(t, put(0, 7), done, 2, load(0, 0, 0), load(0, 2, 0), gets(0, 0, 0), store(0, 3, 7), store(0, 2, 1))
	w.wantWords(t, 1, 0, 1, 7, 1, 0)
	w.tells(t, pick(1), value(7), 2, load(1, 1, 0), load(1, 2, 1), gets(1, 1, 0), load(1, 3, 7), store(1, 2, 2))
	w.wantWords(t, 1, 1, 2, 7, 1, 0)
	w.tells(t, pick(1), empty, 1, load(1, 1, 1), load(1, 4, 1))
	w.wantHolds(t)
	w.wantTickets(t, []api.Ticket{{Value: 7}}, []api.Ticket{{Call: 1, Value: 7}})
}

// The chapter's example 2: the third of three puts is full.
func TestExampleTwo(t *testing.T) {
	w := wheelOf(t, example())
	w.calls(t, done, put(0, 7), put(0, 8))
	w.tells(t, put(0, 9), full, 1, load(0, 0, 2), load(0, 2, 1))
	w.wantWords(t, 2, 0, 1, 7, 2, 8)
	w.wantHolds(t)
	w.wantTickets(t, []api.Ticket{{Value: 7}, {Call: 1, Number: 1, Value: 8}}, nil)
}

// The chapter's example 3: a put that has its ticket and is not through holds up what stands behind it.
func TestExampleThree(t *testing.T) {
	w := wheelOf(t, example())
	w.make(t, put(0, 7))
	w.goes(t, load(0, 0, 0), load(0, 2, 0), gets(0, 0, 0))
	point := w.now()
	w.pending(t, 0, point)
	w.tells(t, put(1, 8), done, 2, through(w.c, 1, 1, 8)...)
	w.tells(t, pick(1), empty, 1, load(1, 1, 0), load(1, 2, 0))
	w.wantHolds(t)
	w.wantTickets(t, []api.Ticket{{Value: 7}, {Call: 1, Number: 1, Value: 8}}, nil)
	if order, e := witness.Find(asQueue(w.m.Run().Calls)); e != api.ErrNone {
		t.Errorf("a plain queue's calls explain it: %v, %d", order, e)
	}
	w.goes(t, store(0, 3, 7), store(0, 2, 1))
	w.ended(t, 0, done, point)
	w.calls(t, value(7), pick(1))
	w.calls(t, value(8), pick(1))
	w.wantHolds(t)
}

// asQueue are the calls as if they were a plain queue's.
func asQueue(calls []api.Call) []api.Call {
	same := slices.Clone(calls)
	for i, c := range same {
		same[i].Op = map[api.Op]api.Op{api.OpPut: api.OpEnqueue, api.OpPick: api.OpDequeue}[c.Op]
	}
	return same
}

func (w *wheel) wantTickets(t *testing.T, puts, picks []api.Ticket) {
	t.Helper()
	wantTickets(t, w.c, w.m.Run(), puts, picks)
}

func wantTickets(t *testing.T, c api.Ring, r api.Run, puts, picks []api.Ticket) {
	t.Helper()
	gotPuts, gotPicks, e := ring.Tickets(c, r)
	if !slices.Equal(gotPuts, puts) || !slices.Equal(gotPicks, picks) || e != api.OK {
		t.Errorf("Tickets = %+v, %+v, %d, not %+v, %+v", gotPuts, gotPicks, e, puts, picks)
	}
}
