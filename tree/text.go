package tree

import (
	"strings"

	"workcell/api"
	"workcell/fluid"
	"workcell/unit"
	"workcell/ware"
)

func isEmpty(text string) bool { return text == "" }

// isName: is it a word with no meaning of its own?
func isName(text string) bool {
	return isWord(text) && !isKeyword(text) && !isKind(text)
}

// isWord: is it one for the lexer?
func isWord(text string) bool {
	for i, c := range text {
		letter := 'a' <= c && c <= 'z' || 'A' <= c && c <= 'Z'
		digit := '0' <= c && c <= '9'
		if !letter && (i == 0 || !digit) {
			return false
		}
	}
	return text != ""
}

// isKeyword: is it one of the words that the grammar has in quotes?
func isKeyword(text string) bool {
	switch text {
	case "let", "set", "fill", "with", "tip", "drop", "draw", "from", "put", "into", "move",
		"heat", "hold", "shake", "for", "wait", "to", "if", "else", "def", "do":
		return true
	}
	return false
}

// isKind: is it the name of a kind of quantities?
func isKind(text string) bool {
	switch text {
	case "num", "vol", "len", "heat", "time", "turns":
		return true
	}
	return false
}

// isAmount: is it one for the lexer, to which a minus is a token of its own?
func isAmount(text string) bool {
	_, e := unit.Read(text)
	return e == api.OK && !strings.HasPrefix(text, "-")
}

func isLabel(text string) bool {
	return fluid.Check([]api.Parcel{{Label: text}}) == api.OK
}

func isSpot(text string) bool {
	_, e := ware.Spot(text)
	return e == api.OK
}

// isOperator: does it stand between two expressions?
func isOperator(text string) bool { return isSumSign(text) || isProductSign(text) }

func isSumSign(text string) bool { return text == "+" || text == "-" }

func isProductSign(text string) bool { return text == "*" || text == "/" }
