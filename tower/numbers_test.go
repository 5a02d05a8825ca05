package tower_test

import (
	"testing"

	"reclaim/api"
)

// P18.2, part 1: each number in its place.
func TestMachine(t *testing.T) {
	for _, x := range []struct {
		c    api.Config
		want string
	}{
		{tiny(), "machine threads 1 records 1 hazards 3 retire 1 cache 0 slots 2 buckets 1"},
		{configOf(2, 9, 5, 6, 7, 8, 4), "machine threads 2 records 9 hazards 5 retire 6 cache 7 slots 8 buckets 4"},
		{configOf(16, 16, 8, 1024, 64, 1024, 64), "machine threads 16 records 16 hazards 8 retire 1024 cache 64 slots 1024 buckets 64"},
		{configOf(1, 1, 3, 1, 0, 1, 1), "machine threads 1 records 1 hazards 3 retire 1 cache 0 slots 1 buckets 1"},
	} {
		taleOf(x.c).wantLines(t, "a machine", "machine", x.want)
		wantRun(t, x.want, taleOf(x.c).reported(t))
	}
}

// P18.2, part 9: each of the peaks in its place.
func TestPeaks(t *testing.T) {
	taleOf(small()).wantLines(t, "the beginning", "peaks", "peaks cached 0 owned 0 linked 1 detached 0 retired 0 gap 0 steps 0")
	x := taleOf(configOf(2, 1, 3, 1, 0, 20, 1), open(0, 77, 0, 0), call(1, 77, 0, 1, 20, -1, done))
	for slot, state := range []api.State{linked, linked, linked, cached, owned, owned, detached, detached, detached, detached, retired, retired, retired, retired, retired} {
		if slot > 0 {
			x.shift(2, 0, slot, state)
		}
	}
	for move := range 9 {
		x.load(3+move, min(move%3, 1), 0)
	}
	x.wantLines(t, "a run", "peaks", "peaks cached 1 owned 2 linked 3 detached 4 retired 5 gap 9 steps 7")
	x.shift(30, 0, 4, cached).shift(30, 0, 10, free).wantLines(t, "and on", "peaks", "peaks cached 2 owned 2 linked 3 detached 4 retired 5 gap 9 steps 7")
}

// P18.2, part 10: the bounds of several configurations, worked by hand.
func TestBounds(t *testing.T) {
	for _, x := range []struct {
		c    api.Config
		want string
	}{
		{tiny(), "bounds listed 4 retired 4 solo 280 window 769"},
		{configOf(2, 2, 3, 2, 1, 5, 1), "bounds listed 13 retired 26 solo 606 window 7007"},
		{configOf(2, 1, 3, 1, 2, 4, 1), "bounds listed 4 retired 4 solo 419 window 3751"},
		// A 8, Listed 100 + 0; Solo 168 + 3 * (3 + 8 + 300 + 3) + 30 + 2 + 8 + 100; V 8 + 1 + 10 + 100
		{configOf(1, 1, 8, 100, 10, 3, 5), "bounds listed 100 retired 100 solo 1250 window 6374"},
		// A 128, Listed 1024 + 15 * 128; Solo 57344 + 18 * (48 + 128 + 8832 + 3) + 192 + 32 + 8 + 100; V 128 + 1 + 1024 + 47104
		{configOf(16, 16, 8, 1024, 64, 1024, 64), "bounds listed 2944 retired 47104 solo 219874 window 5635855777"},
	} {
		taleOf(x.c).wantLines(t, "bounds", "bounds", x.want)
	}
}

// P18.2, part 11: how many of each.
func TestMade(t *testing.T) {
	taleOf(small()).wantLines(t, "nothing", "made", "made 0 calls, 0 accesses, 0 shifts")
	two().wantLines(t, "two calls", "made", "made 2 calls, 0 accesses, 0 shifts")
	x := two().load(3, 0, 0).load(4, 1, 0).load(5, 0, 0)
	x.wantLines(t, "and accesses", "made", "made 2 calls, 3 accesses, 0 shifts")
	x.shift(6, 1, 2, owned, linked, detached, retired, free).wantLines(t, "and shifts", "made", "made 2 calls, 3 accesses, 5 shifts")
	two().shift(6, 1, 2, owned).wantLines(t, "one shift", "made", "made 2 calls, 0 accesses, 1 shifts")
	taleOf(small(), open(0, 77, 0, 0)).load(1, 0, 0).wantLines(t, "one of each", "made", "made 1 calls, 1 accesses, 0 shifts")
}
