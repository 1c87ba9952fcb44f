package code

import "workcell/api"

// wording of a kind: its first word, and the letters ahead of the numbers of a command, as numbersOf tells them: none
// ahead of a number that the kind has no use for.
type wording struct {
	first   string
	letters [4]string
}

// words of each kind; there is no kind 0.
var words = [...]wording{
	api.Home:  {first: "G28"},
	api.Go:    {first: "G1", letters: [4]string{"X", "Y", "Z", ""}},
	api.Plug:  {first: "M1", letters: [4]string{"", "", "", "S"}},
	api.Grab:  {first: "M2"},
	api.Eject: {first: "M3"},
	api.Cook:  {first: "M104", letters: [4]string{"", "", "", "S"}},
	api.Rest:  {first: "G4", letters: [4]string{"", "", "", "P"}},
	api.Turn:  {first: "M106", letters: [4]string{"", "", "", "S"}},
}

// kindOf a first word; 0, if it is none.
func kindOf(first string) int {
	for kind := api.Home; kind <= api.Turn; kind++ {
		if words[kind].first == first {
			return kind
		}
	}
	return 0
}

// numbersOf a command, in the order of its words.
func numbersOf(c api.Command) [4]int { return [4]int{c.X, c.Y, c.Z, c.Value} }

// commandOf a kind and its numbers.
func commandOf(kind int, n [4]int) api.Command {
	return api.Command{Kind: kind, X: n[0], Y: n[1], Z: n[2], Value: n[3]}
}

// isInRange: may the numbers be, whatever the kind?
func isInRange(numbers [4]int) bool {
	for _, n := range numbers[:3] {
		if n < -api.MaxPlace || n > api.MaxPlace {
			return false
		}
	}
	return 0 <= numbers[3] && numbers[3] <= api.MaxVolume
}

// isUsed: is there a letter for each number that is not 0?
func isUsed(w wording, numbers [4]int) bool {
	for i, n := range numbers {
		if n != 0 && w.letters[i] == "" {
			return false
		}
	}
	return true
}
