// Package nest: how deep parts of a protocol's tree stand in one another, for all who hold trees against the limits.
package nest

import "workcell/api"

// Depth: how many Blocks, Minuses and Binaries in parentheses stand in one another, at the most.
// The tree's own node counts, too, but as no kid it stands in no parentheses.
func Depth(n api.Node) int {
	most := 0
	for i, kid := range n.Kids {
		deep := Depth(kid)
		if IsWrapped(n, i) {
			deep++
		}
		most = max(most, deep)
	}
	if n.Kind == api.Block || n.Kind == api.Minus {
		most++
	}
	return most
}

// IsWrapped: does that kid of the node stand in parentheses?
func IsWrapped(n api.Node, i int) bool {
	kid := n.Kids[i]
	if kid.Kind != api.Binary {
		return false
	}
	switch {
	case n.Kind == api.Minus:
		return true
	case n.Kind != api.Binary:
		return false
	case isSumSign(n.Text) == isSumSign(kid.Text):
		return i > 0 // of one rank: what is taken from the left needs none
	}
	return isSumSign(kid.Text)
}

// isSumSign: is it of the lower rank?
func isSumSign(text string) bool { return text == "+" || text == "-" }
