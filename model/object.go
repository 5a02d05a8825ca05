package model

import "reclaim/api"

// The objects' numbers.
const (
	objectCell = 1 + iota
	objectStack
	objectQueue
	objectSet
	objectTable
)

// objects is how many there are.
const objects = objectTable

// object is one of the objects: the rules of its calls, over what it holds. Of a call only the op, the arg and
// the data are looked at.
type object interface {
	// answers is what a call answers, if it is made now. It changes nothing, so that an answer can be asked
	// for ahead of the call.
	answers(c api.Call) api.Answer
	// leave makes what is held what the call leaves.
	leave(c api.Call)
}

// Object is the number of the object that an op belongs to; 0: none.
func Object(op api.Op) int {
	switch op {
	case api.OpPost, api.OpRead:
		return objectCell
	case api.OpPush, api.OpPop:
		return objectStack
	case api.OpEnqueue, api.OpDequeue:
		return objectQueue
	case api.OpInsert, api.OpDelete, api.OpContains:
		return objectSet
	case api.OpAdd, api.OpRemove, api.OpGet:
		return objectTable
	}
	return 0
}

// puts tells whether the calls of an op may want a slot: only those may answer Full.
func puts(op api.Op) bool {
	switch op {
	case api.OpPost, api.OpPush, api.OpEnqueue, api.OpInsert, api.OpAdd:
		return true
	}
	return false
}

// Answers.

func only(k api.AnswerKind) api.Answer { return api.Answer{Kind: k} }

func value(v int) api.Answer { return api.Answer{Kind: api.AnswerValue, Value: v} }

func whether(so bool) api.Answer {
	if so {
		return only(api.AnswerYes)
	}
	return only(api.AnswerNo)
}
