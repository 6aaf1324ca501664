package impl

import (
	"iter"
	"slices"
	"strconv"
	"strings"
)

const MaxText = 20000

// maxDigits is the length of 999999999, the greatest number that ReadDec accepts.
const maxDigits = 9

func DecText(n int) string {
	return strconv.Itoa(n)
}

// ReadDec compares with DecText because Atoi also accepts signs and leading zeros.
func ReadDec(s string) int {
	if len(s) > maxDigits {
		return -1
	}
	n, err := strconv.Atoi(s)
	if err != nil || n < 0 || DecText(n) != s {
		return -1
	}
	return n
}

func Before(a string, b string) bool {
	return a < b
}

func Rising(list []string) bool {
	for a, b := range neighbours(list) {
		if !Before(a, b) {
			return false
		}
	}
	return true
}

func Join(list []string, by string) string {
	return strings.Join(list, by)
}

func Has(list []string, s string) bool {
	return slices.Contains(list, s)
}

// Put searches from the front, not by halving, because the list need not be rising.
func Put(list []string, s string) []string {
	at := 0
	for at < len(list) && Before(list[at], s) {
		at++
	}
	rest := at
	if at < len(list) && list[at] == s {
		rest++
	}
	return concat(list[:at], []string{s}, list[rest:])
}

func Without(list []string, s string) []string {
	var out []string
	for x := range others(list, s) {
		out = append(out, x)
	}
	return out
}

// concat always makes a new list: appending to a part could write into an argument's spare capacity.
func concat(parts ...[]string) []string {
	var out []string
	for _, part := range parts {
		out = append(out, part...)
	}
	return out
}

func neighbours(list []string) iter.Seq2[string, string] {
	return func(yield func(string, string) bool) {
		for i := 1; i < len(list); i++ {
			if !yield(list[i-1], list[i]) {
				return
			}
		}
	}
}

func others(list []string, s string) iter.Seq[string] {
	return func(yield func(string) bool) {
		for _, x := range list {
			if x != s && !yield(x) {
				return
			}
		}
	}
}
