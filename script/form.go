package script

import (
	"strconv"
	"strings"
)

// A form is what lines of one kind look like: their words with one blank between, and a 0 in each place where a number
// must stand. No other word of a form has a 0 in it, so that forms are read and filled by their zeros.
const (
	formMachine = "machine threads 0 records 0 hazards 0 retire 0 cache 0 slots 0 buckets 0"
	formStep    = "0 ."
	formSteps   = "0 . 0"
	formRounds  = "* 0"
	formOp      = "0 op 0 0 0"
)

const (
	numberRune = '0'
	numberText = "0"
	blankText  = " "
	lineEnd    = "\n"
)

// formOf is the form that words have, whether lines of that form are any or not. A word that begins as a number does is
// never one of those that stand in a form as they are.
func formOf(words []string) string {
	form := make([]string, len(words))
	for i, w := range words {
		form[i] = w
		if isNumberLike(w) {
			form[i] = numberText
		}
	}
	return strings.Join(form, blankText)
}

// numbersOf are the numbers among words, and whether all words that begin as a number does are one; what is none stands
// as 0 in the list.
func numbersOf(words []string) ([]int, bool) {
	var numbers []int
	whole := true
	for _, w := range words {
		if !isNumberLike(w) {
			continue
		}
		n, ok := numberOf(w)
		numbers = append(numbers, n)
		whole = whole && ok
	}
	return numbers, whole
}

// isNumberLike tells whether a word begins as a number does.
func isNumberLike(w string) bool {
	digits := strings.TrimPrefix(w, "-")
	return digits != "" && '0' <= digits[0] && digits[0] <= '9'
}

// numberOf is the number that a word is. Each number is written in just one way: so it is written again, and the two
// texts are held against each other.
func numberOf(w string) (int, bool) {
	n, err := strconv.Atoi(w)
	if err != nil || strconv.Itoa(n) != w {
		return 0, false
	}
	return n, true
}

// filled is a form's line, with the first of the numbers in the places where one must stand.
func filled(form string, numbers ...int) string {
	var line strings.Builder
	for _, r := range form {
		if r != numberRune {
			line.WriteRune(r)
			continue
		}
		line.WriteString(strconv.Itoa(numbers[0]))
		numbers = numbers[1:]
	}
	return line.String() + lineEnd
}
