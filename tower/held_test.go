package tower_test

import (
	"strconv"
	"strings"
	"testing"

	"reclaim/api"
)

// roomy is the line of a machine of one thread with room for all objects, and its thread's record.
const roomy = "machine threads 1 records 1 hazards 3 retire 1 cache 0 slots 9 buckets 3\n0 register\n0 . 2\n"

// whole is a script of the calls of thread 0, each run to its end.
func whole(calls ...string) string {
	var text strings.Builder
	text.WriteString(roomy)
	for _, c := range calls {
		text.WriteString("0 " + c + "\n0 . 90\n")
	}
	return text.String()
}

// objects is the five lines of what objects hold.
func objects(text string) string {
	_, behind, _ := strings.Cut(text, "\ncell ")
	within, _, _ := strings.Cut(behind, "\nfree ")
	return "cell " + within
}

// P18.2, part 4: each object by itself, with nothing, one entry and several.
func TestObjects(t *testing.T) {
	for _, x := range []struct {
		calls string
		want  string
	}{
		{"", "cell -\nstack -\nqueue -\nset -\ntable -"},
		{"post 5", "cell 5\nstack -\nqueue -\nset -\ntable -"},
		{"post 5,post -6", "cell -6\nstack -\nqueue -\nset -\ntable -"},
		{"push 5", "cell -\nstack 5\nqueue -\nset -\ntable -"},
		{"push 5,push 7,push -6", "cell -\nstack -6 7 5\nqueue -\nset -\ntable -"},
		{"push 5,pop", "cell -\nstack -\nqueue -\nset -\ntable -"},
		{"enqueue 5", "cell -\nstack -\nqueue 5\nset -\ntable -"},
		{"enqueue 5,enqueue 7,enqueue -6", "cell -\nstack -\nqueue 5 7 -6\nset -\ntable -"},
		{"enqueue 5,enqueue 7,dequeue", "cell -\nstack -\nqueue 7\nset -\ntable -"},
		{"insert 5", "cell -\nstack -\nqueue -\nset 5\ntable -"},
		{"insert 5,insert 7,insert -6,insert 7", "cell -\nstack -\nqueue -\nset -6 5 7\ntable -"},
		{"insert 5,insert 7,delete 5", "cell -\nstack -\nqueue -\nset 7\ntable -"},
		{"add 5 0", "cell -\nstack -\nqueue -\nset -\ntable 5=0"},
		{"add 5 50,add 7 -70,add -6 60,add 7 71", "cell -\nstack -\nqueue -\nset -\ntable -6=60 5=50 7=-70"},
		{"add 0 -9223372036854775808,add 9223372036854775807 1,add -9223372036854775808 -1", "cell -\nstack -\nqueue -\nset -\ntable -9223372036854775808=-1 0=-9223372036854775808 9223372036854775807=1"},
		{"add 5 50,add 7 70,remove 5", "cell -\nstack -\nqueue -\nset -\ntable 7=70"},
		{"post 1,push 2,push 3,enqueue 4,insert 5,add 6 7", "cell 1\nstack 3 2\nqueue 4\nset 5\ntable 6=7"},
		{"post 0,push 0,enqueue 0,insert 0,add 0 0", "cell 0\nstack 0\nqueue 0\nset 0\ntable 0=0"},
	} {
		var calls []string
		if x.calls != "" {
			calls = strings.Split(x.calls, ",")
		}
		if got := objects(ran(t, whole(calls...))); got != x.want {
			t.Errorf("%s: %q, not %q", x.calls, got, x.want)
		}
	}
}

// P18.2, part 4: what a call on its way has done is told; a slot with a mark isn't.
func TestObjectsOnTheWay(t *testing.T) {
	for steps, want := range map[string]string{"8": "set 1 5", "9": "set 5", "10": "set 5"} {
		if got := linesOf(ran(t, whole("insert 1", "insert 5")+"0 delete 1\n0 . "+steps+"\n"), "set"); len(got) != 1 || got[0] != want {
			t.Errorf("%s steps: %q, not %q", steps, got, want)
		}
	}
}

// P18.2, part 4: what a run by hand leaves is told by its words alone, whatever its calls are.
func TestObjectsOfWords(t *testing.T) {
	x := two()
	x.store(2, 0, addrOf(x.c, api.RegionTop, 0, 0), link(3)).store(3, 0, addrOf(x.c, api.RegionValue, 3, 0), 8).store(4, 1, addrOf(x.c, api.RegionCell, 0, 0), link(2))
	if got := objects(x.reported(t)); got != "cell 0\nstack 8\nqueue -\nset -\ntable -" {
		t.Errorf("%q", got)
	}
}

// P18.2, part 5: the free list, the head's first: empty, one slot, several in an order of their own.
func TestFree(t *testing.T) {
	for slots, want := range map[int]string{1: "free -", 2: "free 1", 4: "free 1 2 3", 12: "free 1 2 3 4 5 6 7 8 9 10 11"} {
		taleOf(configOf(1, 1, 3, 1, 0, slots, 1)).wantLines(t, strconv.Itoa(slots)+" slots", "free", want)
	}
	for _, x := range []struct{ calls, want string }{
		{"take", "free 2 3 4 5 6 7 8"}, {"take,take,give 1", "free 1 3 4 5 6 7 8"}, {"take,take,take,give 1,give 3", "free 3 1 4 5 6 7 8"}, {"push 1,push 2,pop", "free 2 3 4 5 6 7 8"},
		{"take,take,take,take,take,take,take,take", "free -"},
	} {
		if got := linesOf(ran(t, whole(strings.Split(x.calls, ",")...)), "free"); len(got) != 1 || got[0] != x.want {
			t.Errorf("%s: %q, not %q", x.calls, got, x.want)
		}
	}
}
