package census_test

import (
	"testing"

	"reclaim/api"
	"reclaim/census"
)

type bound struct {
	name string
	of   func(c api.Config) (int, api.Errno)
}

// bounds are all of them, in the chapter's order.
var bounds = [4]bound{{"Listed", census.Listed}, {"Retired", census.Retired}, {"Solo", census.Solo}, {"Window", census.Window}}

func wantBounds(t *testing.T, c api.Config, want [4]int) {
	t.Helper()
	for i, b := range bounds {
		if n, e := b.of(c); n != want[i] || e != api.OK {
			t.Errorf("%s(%+v) = %d, %d, not %d", b.name, c, n, e, want[i])
		}
	}
}

// P13.6: the chapter's numbers, and others worked by hand.
func TestBounds(t *testing.T) {
	wantBounds(t, tiny(), [4]int{4, 4, 280, 769})
	// A = 6; Listed 9 + 6; Retired 30; Solo 168 + 4 * 60 + 3 + 4 + 3 + 100; V = 49; 2 * (55 * 47 + 4 * 57 + 147 + 3 + 4 + 3 + 43) + 1.
	wantBounds(t, configOf(2, 2, 3, 9, 1, 3, 1), [4]int{15, 30, 518, 6027})
	// A = 128; Listed 1024 + 15 * 128 = 2944; Retired 47104; a scan 48 + 128 + 8832 = 9008;
	// Solo 57344 + 18 * 9011 + 192 + 32 + 8 + 100; V = 129 + 1024 + 47104 = 48257;
	// 16 * (48263 * (7 * 1040 + 12) + 18 * 9008 + 144771 + 192 + 32 + 8 + 43) + 1.
	wantBounds(t, configOf(16, 16, 8, 1024, 64, 1024, 64), [4]int{2944, 47104, 219874, 5635855777})
	// A = 3; Listed max(4, 4) = 4, and with Retire 5: 5.
	wantBounds(t, configOf(1, 1, 3, 4, 0, 2, 1), [4]int{4, 4, 280, 769})
	wantBounds(t, configOf(1, 1, 3, 5, 0, 2, 1), [4]int{5, 5, 289, 814})
	// A = 35; Listed 36 + 140 = 176; Retired 880; a scan 15 + 35 + 528 = 578; Solo 952 + 11 * 581 + 39 + 10 + 7 + 100;
	// V = 73 + 117 + 880 = 1070; 9 * (1076 * (7 * 26 + 12) + 11 * 578 + 3210 + 39 + 10 + 7 + 43) + 1.
	wantBounds(t, configOf(9, 5, 7, 11, 13, 17, 3), [4]int{176, 880, 7499, 1965700})
}

// P13.6: a number of buckets changes nothing.
func TestBoundsOfBuckets(t *testing.T) {
	for buckets := 1; buckets <= 64; buckets++ {
		wantBounds(t, configOf(1, 1, 3, 1, 0, 2, buckets), [4]int{4, 4, 280, 769})
	}
}

// plainBounds are the chapter's lines once more.
func plainBounds(c api.Config) [4]int {
	a := c.Records * c.Hazards
	listed := c.Retire
	if a+1 > listed {
		listed = a + 1
	}
	listed += (c.Records - 1) * a
	retired := c.Records * listed
	solo := 56*c.Slots + (c.Threads+2)*(3*c.Records+a+3*listed+3) + 3*c.Cache + 2*c.Records + c.Hazards + 100
	v := 8*c.Threads + 1 + c.Threads*c.Cache + retired
	window := c.Threads*((v+6)*(7*(c.Slots+c.Threads)+12)+(c.Threads+2)*(3*c.Records+a+3*listed)+3*v+3*c.Cache+2*c.Records+c.Hazards+43) + 1
	return [4]int{listed, retired, solo, window}
}

// P13.6: of many configurations, those at the limits' edges too.
func TestBoundsOfMany(t *testing.T) {
	d := dice(3)
	edge := func(low, high int) int {
		return []int{low, high, low + d.below(high-low+1), low + d.below(high-low+1)}[d.below(4)]
	}
	for range 5000 {
		c := configOf(edge(1, 16), edge(1, 16), edge(3, 8), edge(1, 1024), edge(0, 64), edge(1, 1024), edge(1, 64))
		wantBounds(t, c, plainBounds(c))
	}
}

// P13.6: a configuration that may not be.
func TestBoundsOfNone(t *testing.T) {
	for _, c := range badConfigs() {
		for _, b := range bounds {
			if n, e := b.of(c); n != 0 || e != api.ErrConfig {
				t.Errorf("%s(%+v) = %d, %d", b.name, c, n, e)
			}
		}
	}
}
