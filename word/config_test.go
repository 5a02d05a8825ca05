package word_test

import (
	"math"
	"testing"

	"reclaim/api"
	"reclaim/word"
)

// example is the configuration of the chapter's examples.
func example() api.Config {
	return api.Config{Threads: 2, Records: 2, Hazards: 3, Retire: 1, Cache: 0, Slots: 4, Buckets: 2}
}

func least() api.Config {
	return api.Config{Threads: 1, Records: 1, Hazards: 3, Retire: 1, Cache: 0, Slots: 1, Buckets: 1}
}

func greatest() api.Config {
	return api.Config{Threads: 16, Records: 16, Hazards: 8, Retire: 1024, Cache: 64, Slots: 1024, Buckets: 64}
}

// mixed has unlike numbers throughout, so that none can stand for another.
func mixed() api.Config {
	return api.Config{Threads: 9, Records: 5, Hazards: 7, Retire: 11, Cache: 13, Slots: 17, Buckets: 3}
}

func goodConfigs() []api.Config {
	return []api.Config{example(), least(), greatest(), mixed()}
}

// limit is one number of a configuration and the limits that the document sets it.
type limit struct {
	name     string
	least    int
	greatest int
	set      func(c *api.Config, n int)
}

func limits() []limit {
	return []limit{
		{"Threads", 1, 16, func(c *api.Config, n int) { c.Threads = n }},
		{"Records", 1, 16, func(c *api.Config, n int) { c.Records = n }},
		{"Hazards", 3, 8, func(c *api.Config, n int) { c.Hazards = n }},
		{"Retire", 1, 1024, func(c *api.Config, n int) { c.Retire = n }},
		{"Cache", 0, 64, func(c *api.Config, n int) { c.Cache = n }},
		{"Slots", 1, 1024, func(c *api.Config, n int) { c.Slots = n }},
		{"Buckets", 1, 64, func(c *api.Config, n int) { c.Buckets = n }},
	}
}

// badConfigs has, for each number, configurations in which just that one is out of its limits.
func badConfigs() []api.Config {
	list := []api.Config{{}}
	for _, l := range limits() {
		for _, n := range []int{l.least - 1, l.greatest + 1, math.MinInt, math.MaxInt, -1 << 32, 1<<32 + l.least} {
			for _, c := range goodConfigs() {
				l.set(&c, n)
				list = append(list, c)
			}
		}
	}
	return list
}

// P1.1.
func TestCheckTakesWhatMayBe(t *testing.T) {
	for _, c := range goodConfigs() {
		for _, l := range limits() {
			for n := l.least; n <= l.greatest; n++ {
				c := c
				l.set(&c, n)
				if e := word.Check(c); e != api.OK {
					t.Fatalf("Check(%+v) = %d", c, e)
				}
			}
		}
	}
}

// P1.1.
func TestCheckRefusesWhatMayNotBe(t *testing.T) {
	for _, c := range badConfigs() {
		if e := word.Check(c); e != api.ErrConfig {
			t.Errorf("Check(%+v) = %d", c, e)
		}
	}
}

// P8: a configuration that may not be is told ahead of all other errors, with zero values beside it.
func TestConfigComesFirst(t *testing.T) {
	for _, c := range badConfigs() {
		if n, e := word.Size(c); n != 0 || e != api.ErrConfig {
			t.Errorf("Size(%+v) = %d, %d", c, n, e)
		}
		for _, p := range []api.Place{{Region: api.RegionTop}, {Region: api.RegionLink, I: -1}, {}} {
			if a, e := word.Addr(c, p); a != 0 || e != api.ErrConfig {
				t.Errorf("Addr(%+v, %v) = %d, %d", c, p, a, e)
			}
		}
		for _, n := range []int{0, -1, math.MaxInt} {
			if p, e := word.At(c, n); p != (api.Place{}) || e != api.ErrConfig {
				t.Errorf("At(%+v, %d) = %v, %d", c, n, p, e)
			}
			if l, e := word.First(c, n); len(l) != 0 || e != api.ErrConfig {
				t.Errorf("First(%+v, %d) = %d words, %d", c, n, len(l), e)
			}
		}
	}
}
