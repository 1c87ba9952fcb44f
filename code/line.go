package code

import (
	"strconv"

	"workcell/api"
)

// Signs of a line, and what ends it in a program.
const (
	numberSign = "N"
	blank      = " "
	sumSign    = "*"
	lineEnd    = "\n"
)

// How many digits a number and a sum have at the most.
const (
	mostDigits = 10
	sumDigits  = 3
)

// lineOf a number and a command that may be.
func lineOf(n int, c api.Command) string {
	w := words[c.Kind]
	ahead := numberSign + strconv.Itoa(n) + blank + w.first
	for i, number := range numbersOf(c) {
		if w.letters[i] != "" {
			ahead += blank + w.letters[i] + strconv.Itoa(number)
		}
	}
	return ahead + sumSign + strconv.Itoa(sumOf(ahead))
}

// sumOf what stands ahead of its sign.
func sumOf(ahead string) int {
	var sum byte
	for i := range len(ahead) {
		sum ^= ahead[i]
	}
	return int(sum)
}

// readBody: the number and the command that stand ahead of the sum's sign, in their range or not; do they, and nothing else?
func readBody(ahead string) (int, api.Command, bool) {
	r := reader{left: ahead}
	r.take(numberSign)
	n := r.number(mostDigits)
	r.take(blank)
	kind := kindOf(r.word())
	var numbers [4]int
	for i, letter := range words[kind].letters {
		if letter != "" {
			r.take(blank + letter)
			numbers[i] = r.number(mostDigits)
		}
	}
	return n, commandOf(kind, numbers), r.isDone() && kind != 0
}

// readSum: the sum that stands behind its sign, right or not; does it, and nothing else?
func readSum(behind string) (int, bool) {
	r := reader{left: behind}
	sum := r.number(sumDigits)
	return sum, r.isDone() && sum >= 0
}
