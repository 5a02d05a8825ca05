package census_test

import (
	"testing"

	"reclaim/api"
	"reclaim/census"
)

// P13.1, P8: ErrConfig comes first, whatever used, the run and the move are.
func TestConfigComesFirst(t *testing.T) {
	x := meeting()
	for _, c := range badConfigs() {
		for _, used := range []int{0, 1, -1, 5, greatest, least} {
			wantRefused(t, "a configuration that may not be", c, used, x.r, api.ErrConfig)
			wantRefused(t, "and no run", c, used, api.Run{}, api.ErrConfig)
		}
	}
}

// P13.1: then ErrRange of used, whatever the run and the move are.
func TestUsedComesSecond(t *testing.T) {
	x := meeting()
	for _, used := range []int{-1, 5, 1024, 1<<32 + 1, greatest, least} {
		wantRefused(t, "a used that is not 0 to Slots", x.c, used, x.r, api.ErrRange)
		wantRefused(t, "and no run", x.c, used, api.Run{}, api.ErrRange)
	}
}

// P13.2: then ErrRun, and last ErrRange of the move.
func TestMoveComesLast(t *testing.T) {
	x := meeting()
	for _, moves := range []int{-1, -2, -1 << 32, least} {
		if s, h, e := census.States(x.c, x.used, x.r, moves); len(s) != 0 || len(h) != 0 || e != api.ErrRange {
			t.Errorf("States(%d) = %v, %v, %d", moves, s, h, e)
		}
	}
	x.r.Words[0]++
	x.wantRefused(t, "a run that doesn't go together") // whose moves are below 0 too
}
