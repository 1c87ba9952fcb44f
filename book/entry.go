package book

import "bytes"

// head of a book.
const head = "CELL"

// modulus of an entry's check. It is above 255 times 255, the most by which one byte of a line can change the sum, so
// that such a change is always seen.
const modulus = 65521

// lead and tail: how many bytes an entry has ahead of its line, and behind it.
const (
	lead = 2
	tail = 2
)

// appendEntry of an action's line; none of them is longer than a byte can tell.
func appendEntry(b []byte, line string) []byte {
	n, check := byte(len(line)), checkOf(line)
	b = append(b, n, 255-n)
	b = append(b, line...)
	return append(b, byte(check>>8), byte(check))
}

// checkOf a line.
func checkOf(line string) int {
	sum := 0
	for i := range len(line) {
		sum += (i + 1) * int(line[i])
	}
	return sum % modulus
}

// cutHead: what stands behind the head; is there one?
func cutHead(b []byte) ([]byte, bool) { return bytes.CutPrefix(b, []byte(head)) }

// cutEntry: the first entry's line, and what stands behind the entry; is it whole and right?
func cutEntry(b []byte) (string, []byte, bool) {
	if len(b) < lead || b[1] != 255-b[0] {
		return "", nil, false
	}
	end := lead + int(b[0])
	if len(b) < end+tail {
		return "", nil, false
	}
	line := string(b[lead:end])
	if checkOf(line) != int(b[end])<<8|int(b[end+1]) {
		return "", nil, false
	}
	return line, b[end+tail:], true
}
