package census

import (
	"reclaim/api"
	"reclaim/word"
)

// Listed is how many slots a record's retired list can have.
func Listed(c api.Config) (int, api.Errno) { return bound(c, listed) }

// Retired is how many slots can be retired at one time.
func Retired(c api.Config) (int, api.Errno) { return bound(c, retired) }

// Solo is how many steps a call takes at most, if no other thread makes one.
func Solo(c api.Config) (int, api.Errno) { return bound(c, solo) }

// Window is in how many steps, one behind another, some call ends.
func Window(c api.Config) (int, api.Errno) { return bound(c, window) }

// bound is a number of a configuration that may be.
func bound(c api.Config, of func(c api.Config) int) (int, api.Errno) {
	if e := word.Check(c); e != api.OK {
		return 0, e
	}
	return of(c), api.OK
}

// hazards is how many hazard words there are.
func hazards(c api.Config) int { return c.Records * c.Hazards }

func listed(c api.Config) int { return max(c.Retire, hazards(c)+1) + (c.Records-1)*hazards(c) }

func retired(c api.Config) int { return c.Records * listed(c) }

func solo(c api.Config) int {
	return 56*c.Slots + (c.Threads+2)*(scan(c)+3) + 3*c.Cache + 2*c.Records + c.Hazards + 100
}

func window(c api.Config) int {
	v := 8*c.Threads + 1 + c.Threads*c.Cache + retired(c) // changes by which a loop is sent back
	loops := (v + 6) * (7*(c.Slots+c.Threads) + 12)
	scans := (c.Threads + 2) * scan(c)
	return c.Threads*(loops+scans+3*v+3*c.Cache+2*c.Records+c.Hazards+43) + 1
}

// scan is how many steps a scan takes at most.
func scan(c api.Config) int { return 3*c.Records + hazards(c) + 3*listed(c) }
