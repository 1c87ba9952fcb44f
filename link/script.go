package link

import (
	"strconv"
	"strings"

	"workcell/api"
)

// What happens to a sending; from firstTurn on a bit is turned.
const (
	unharmed   = 0
	lineLost   = 1
	answerLost = 2
	firstTurn  = 3
)

// signs of what happens, each at the place of its number.
const signs = ".xa"

// mostDigits of a number in a script's text.
const mostDigits = 5

// checkScript: are there too many numbers, or one below 0?
func checkScript(script []int) api.Errno {
	if len(script) > api.MaxWire {
		return api.ErrSize
	}
	for _, fate := range script {
		if fate < 0 {
			return api.ErrRange
		}
	}
	return api.OK
}

// cutNumber ahead of a script's text that is not empty; what is behind it, and is there one?
func cutNumber(text string) (int, string, bool) {
	if fate := strings.IndexByte(signs, text[0]); fate >= 0 {
		return fate, text[1:], true
	}
	rest := strings.TrimLeft(text, "0123456789")
	n, ok := turnOf(text[:len(text)-len(rest)])
	return n, rest, ok
}

// turnOf digits: the number from firstTurn on that they tell, if they do.
func turnOf(digits string) (int, bool) {
	if digits == "" || len(digits) > mostDigits || digits[0] == '0' {
		return 0, false
	}
	n, err := strconv.Atoi(digits)
	return n, err == nil && n >= firstTurn
}
