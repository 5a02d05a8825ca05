package script_test

import (
	"strings"
	"testing"

	"reclaim/api"
	"reclaim/script"
)

// noWords are texts that are no op's word.
func noWords() []string {
	out := []string{
		"", ".", "*", "op", "machine", "-", "#", "0", "5", "step", "threads", "records", "hazards", "retire", "cache", "slots", "buckets", "value", "done",
		"pin", "unpin", "stow", "draw", "advance", "collect", "put", "pick", "acquire", "release", "steal", "multi", "begin", "commit", "peek", "set", "\x00", "\xff",
	}
	for _, s := range spellings() {
		w := s.word
		out = append(out, strings.ToUpper(w), strings.ToUpper(w[:1])+w[1:], w+"s", "x"+w, w[1:], w[:len(w)-1], " "+w, w+" ", w+"\n", w+"\t", w+"\x00", w+"#", "#"+w, w+".", w+"\u00a0", "\ufeff"+w, w+w)
	}
	return out
}

// P17.4: each op of the table with its word, both ways.
func TestWordsBothWays(t *testing.T) {
	if len(spellings()) != 21 {
		t.Fatalf("%d words", len(spellings()))
	}
	for _, s := range spellings() {
		if w := script.Word(s.op); w != s.word {
			t.Errorf("op %d: %q, not %q", s.op, w, s.word)
		}
		if op, ok := script.Op(s.word); op != s.op || !ok {
			t.Errorf("%q: %d, %v, not %d", s.word, op, ok, s.op)
		}
	}
}

// P17.4: every other number is no op with a word.
func TestOpsWithoutWords(t *testing.T) {
	known := map[api.Op]int{}
	for _, s := range spellings() {
		known[s.op]++
	}
	ops := []api.Op{least, least + 1, -1 << 32, 1 << 32, 1<<32 + 30, 1<<32 + 31, -1<<32 + 30, greatest, greatest - 1}
	for op := api.Op(-300); op <= 300; op++ {
		ops = append(ops, op)
	}
	for _, op := range ops {
		w := script.Word(op)
		if known[op] == 0 && w != "" {
			t.Errorf("op %d: %q", op, w)
		}
		if back, ok := script.Op(w); w != "" && (back != op || !ok) {
			t.Errorf("op %d: %q, and back %d, %v", op, w, back, ok)
		}
	}
	if script.Word(api.OpStep) != "" {
		t.Error("a step has a word")
	}
}

// P17.4: words that are none.
func TestOpOfNoWord(t *testing.T) {
	for _, w := range append(noWords(), strings.Repeat("push", 1<<16)) {
		if op, ok := script.Op(w); op != 0 || ok {
			t.Errorf("%q: %d, %v", short(w), op, ok)
		}
	}
}
