package script

import (
	"strings"

	"reclaim/api"
)

// callWord is how the calls of an op are written.
type callWord struct {
	op    api.Op
	word  string
	takes int // how many of Arg and Data stand behind the word
}

func callWords() []callWord {
	return []callWord{
		{api.OpLook, "look", 1},
		{api.OpBump, "bump", 1},
		{api.OpTake, "take", 0},
		{api.OpGive, "give", 1},
		{api.OpFlush, "flush", 0},
		{api.OpRegister, "register", 0},
		{api.OpUnregister, "unregister", 0},
		{api.OpPost, "post", 1},
		{api.OpRead, "read", 1},
		{api.OpClear, "clear", 1},
		{api.OpScan, "scan", 0},
		{api.OpPush, "push", 1},
		{api.OpPop, "pop", 0},
		{api.OpEnqueue, "enqueue", 1},
		{api.OpDequeue, "dequeue", 0},
		{api.OpInsert, "insert", 1},
		{api.OpDelete, "delete", 1},
		{api.OpContains, "contains", 1},
		{api.OpAdd, "add", 2},
		{api.OpRemove, "remove", 1},
		{api.OpGet, "get", 1},
	}
}

// callOf is how the calls of an op are written; false: it has no word.
func callOf(op api.Op) (callWord, bool) {
	for _, c := range callWords() {
		if c.op == op {
			return c, true
		}
	}
	return callWord{}, false
}

// callNamed is how the calls with a word are written; false: there is no such word.
func callNamed(word string) (callWord, bool) {
	for _, c := range callWords() {
		if c.word == word {
			return c, true
		}
	}
	return callWord{}, false
}

// form is that of the lines with the word.
func (c callWord) form() string {
	return numberText + blankText + c.word + strings.Repeat(blankText+numberText, c.takes)
}

// tells tells whether a line with the word has all that a move of its op has.
func (c callWord) tells(mv api.Move) bool {
	return (c.takes > 0 || mv.Arg == 0) && (c.takes > 1 || mv.Data == 0)
}
