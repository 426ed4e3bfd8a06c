package console

import (
	"strconv"
	"strings"

	"fellrunner/api"
)

// The numbers that may be written: of four digits at most, and one below 0.
const (
	leastNumber = -1
	mostNumber  = 9999
)

// readNumbers: a number a word; false: one of them is none.
func readNumbers(words []string) ([]int, bool) {
	var numbers []int
	for _, word := range words {
		n, ok := readNumber(word)
		if !ok {
			return nil, false
		}
		numbers = append(numbers, n)
	}
	return numbers, true
}

// readNumber of a word; false: it is none.
func readNumber(word string) (int, bool) {
	n, err := strconv.Atoi(word)
	// Held against how it is told, all else shows: a plus, noughts ahead.
	return n, err == nil && n >= leastNumber && n <= mostNumber && strconv.Itoa(n) == word
}

func tellList(numbers []int) string {
	var words []string
	for _, n := range numbers {
		words = append(words, strconv.Itoa(n))
	}
	return strings.Join(words, " ")
}

func tellAnswer(a api.Answer) string {
	if a.Err != api.OK {
		return tellError(a.Err)
	}
	return tellList([]int{a.C.S, a.C.D}) + ": " + tellList(a.Way)
}

// tellError by its number; each is a bare one of package api.
func tellError(err error) string {
	n, _ := err.(api.Errno)
	return "error " + strconv.Itoa(int(n))
}
