package tower

import (
	"iter"
	"slices"
	"strconv"
	"strings"

	"reclaim/api"
)

const (
	blank   = " "
	lineEnd = "\n"
	nothing = "-" // an empty list, or a time that has not come
	place   = '_' // in a form: something is to be put there
)

// filled is a form's line, with texts in its places.
func filled(form string, texts ...string) string {
	var line strings.Builder
	for _, r := range form {
		if r != place {
			line.WriteRune(r)
			continue
		}
		line.WriteString(texts[0])
		texts = texts[1:]
	}
	return line.String() + lineEnd
}

// counted is a form's line, with numbers in its places.
func counted(form string, numbers ...int) string { return filled(form, numberTexts(numbers)...) }

func numberTexts(numbers []int) []string { return textsOf(numbers, strconv.Itoa) }

func pairText(p api.Pair) string { return strconv.Itoa(p.Key) + "=" + strconv.Itoa(p.Value) }

// timeText is the number of a move at which something was, or not yet.
func timeText(move int) string {
	if move == -1 {
		return nothing
	}
	return strconv.Itoa(move)
}

// listText is a list of texts.
func listText(texts []string) string {
	if len(texts) == 0 {
		return nothing
	}
	return strings.Join(texts, blank)
}

// listOf is a list of numbers.
func listOf(numbers []int) string { return listText(numberTexts(numbers)) }

func textsOf[T any](things []T, text func(thing T) string) []string {
	texts := make([]string, len(things))
	for i, thing := range things {
		texts[i] = text(thing)
	}
	return texts
}

// lines gives some lines.
func lines(texts ...string) iter.Seq[string] { return slices.Values(texts) }

// linesOf gives a line for each of some things, made when it is asked for.
func linesOf[T any](things []T, line func(number int, thing T) string) iter.Seq[string] {
	return func(yield func(line string) bool) {
		for number, thing := range things {
			if !yield(line(number, thing)) {
				return
			}
		}
	}
}
