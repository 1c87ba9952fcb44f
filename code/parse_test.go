package code_test

import (
	"strconv"
	"strings"
	"testing"

	"workcell/api"
)

// P16.2: a line of each kind.
func TestParse(t *testing.T) {
	parses(t, "N7 G1 X1 Y-2 Z3*73", 7, to(1, -2, 3)) // the chapter's own
	parses(t, "N1 G28*18", 1, bare(api.Home))
	for ahead, c := range map[string]api.Command{
		"G28":                         bare(api.Home),
		"G1 X0 Y0 Z0":                 to(0, 0, 0),
		"G1 X-10000000 Y10000000 Z-1": to(-far, far, -1),
		"G1 X9 Y10 Z-11":              to(9, 10, -11),
		"M1 S0":                       with(api.Plug, 0),
		"M1 S1000000000":              with(api.Plug, full),
		"M2":                          bare(api.Grab),
		"M3":                          bare(api.Eject),
		"M104 S310150":                with(api.Cook, 310150),
		"G4 P999999999":               with(api.Rest, full-1),
		"M106 S4":                     with(api.Turn, 4),
	} {
		for _, n := range []int{0, 1, 10, 99999, last} {
			parses(t, summed("N"+strconv.Itoa(n)+" "+ahead), n, c)
		}
	}
}

// unformed: what stands ahead of the sum, but is no line's.
func unformed() []string {
	return []string{
		"", "N", "N1", "N1 ", " N1 G28", "N1 G28 ", "N1  G28", "N 1 G28", "n1 G28", "1 G28", "G28", "N G28", "NN1 G28", "N1G28", "N1\tG28", "N1 G28\n", "N1 G28\r", "\nN1 G28",
		// Words.
		"N1 g28", "N1 G", "N1 G2", "N1 G280", "N1 G028", "N1 G28 X1", "N1 G28 S0", "N1 M2 S0", "N1 M3 X0", "N1 M4", "N1 M02", "N1 M", "N1 M105 S1", "N1 M10 S1", "N1 X1", "N1 G28 G28",
		"N1 M1", "N1 M1 ", "N1 M1 S", "N1 M1 P1", "N1 M1 s1", "N1 M1 S1 ", "N1 M1  S1", "N1 M1S1", "N1 M1 S 1", "N1 M1 S1 S1", "N1 M1 S1S1", "N1 M1 X1", "N1 G4 S1", "N1 G4", "N1 M104 P1", "N1 M106", "N1 M106 S", "N1 M1 04 S1",
		"N1 G1", "N1 G1 X1", "N1 G1 X1 Y1", "N1 G1 X1 Y1 Z", "N1 G1 X1 Y1 Z1 ", "N1 G1 X1 Y1 Z1 S0", "N1 G1 Y1 X1 Z1", "N1 G1 X1 Z1 Y1", "N1 G1 X1Y1Z1", "N1 G1 X1 Y1  Z1", "N1 G1 X Y1 Z1", "N1 G1 S1", "N1 G1 X1 Y1 Y1",
		// Numbers.
		"N01 G28", "N00 G28", "N-0 G28", "N-01 G28", "N+1 G28", "N--1 G28", "N- G28", "N1- G28", "N1.0 G28", "N1a G28", "N0x1 G28", "N1_0 G28", "N12345678901 G28", "N-12345678901 G28", "N00000000001 G28",
		"N1 M1 S01", "N1 M1 S00", "N1 M1 S-0", "N1 M1 S-00", "N1 M1 S-01", "N1 M1 S+1", "N1 M1 S--1", "N1 M1 S-", "N1 M1 S1-", "N1 M1 S1e3", "N1 M1 S12345678901", "N1 M1 S-12345678901", "N1 M1 S" + strings.Repeat("9", 400), "N1 M1 S\xd9\xa1",
		"N1 G1 X01 Y1 Z1", "N1 G1 X1 Y-0 Z1", "N1 G1 X1 Y1 Z00", "N1 G1 X1 Y1 Z-", "N1 G1 X12345678901 Y1 Z1",
		"N1 G2\xb8", "\xce1 G28", "N1 G28\x00",
	}
}

// P16.2: what is no line, whatever its sum.
func TestForm(t *testing.T) {
	for _, ahead := range unformed() {
		right := summed(ahead)
		refuses(t, right, api.ErrForm)
		refuses(t, ahead, api.ErrForm)
		refuses(t, ahead+"*", api.ErrForm)
		refuses(t, ahead+"*999", api.ErrForm)
		refuses(t, right+"*", api.ErrForm)
	}
}

// P16.2: what is no sum: its form is ahead of its value, and of what the line tells.
func TestSumForm(t *testing.T) {
	for _, ahead := range []string{"N1 G28", "N1 M1 S-1", "N-1 G28", "N100001 G28"} {
		right := summed(ahead)
		digits := strings.TrimPrefix(right, ahead+"*")
		for _, sum := range []string{
			"", " ", "-", "-1", "-0", "00", "01", "000", "001", "0" + digits, "00" + digits, "+" + digits, "-" + digits, " " + digits, digits + " ", digits + "\n", digits + "\r\n",
			"1000", "1018", "0018", "9999", digits + "*", digits + "*" + digits, "*" + digits, "a", "1a", "a1", "0x12", "1.0", "\xd9\xa1", strings.Repeat("1", 400),
		} {
			refuses(t, ahead+"*"+sum, api.ErrForm)
		}
		refuses(t, strings.Replace(right, "*", "", 1), api.ErrForm)
		refuses(t, strings.Replace(right, "*", " ", 1), api.ErrForm)
		refuses(t, strings.Replace(right, "*", " *", 1), api.ErrForm)
	}
}

// P16.2: all sums but the right one, ahead of what the line tells.
func TestSum(t *testing.T) {
	for ahead, want := range map[string]api.Errno{
		"N1 G28": api.OK, "N0 M104 S5": api.OK, "N7 G1 X1 Y-2 Z3": api.OK,
		"N100001 G28": api.ErrCount, "N-1 M1 S-1": api.ErrCount, "N1 M1 S-1": api.ErrRange, "N1 G1 X0 Y0 Z9999999999": api.ErrRange,
	} {
		right := summed(ahead)
		for sum := range 1000 {
			line := ahead + "*" + strconv.Itoa(sum)
			switch {
			case line != right:
				refuses(t, line, api.ErrSum)
			case want != api.OK:
				refuses(t, line, want)
			}
		}
	}
}

// P16.2: a line's number that is out of range, ahead of numbers that are; those that are longest, too.
func TestTold(t *testing.T) {
	for _, n := range []string{"100001", "-1", "-100000", "9999999999", "-9999999999", "4294967296", "4294967297", "2147483648"} {
		for _, c := range []string{"G28", "M1 S5", "M1 S-5", "G1 X1 Y2 Z10000001"} {
			refuses(t, summed("N"+n+" "+c), api.ErrCount)
		}
	}
	for _, c := range []string{
		"M1 S-1", "M1 S1000000001", "M104 S-9999999999", "G4 P9999999999", "M106 S4294967297", "G4 P-1", "M104 S1000000001",
		"G1 X10000001 Y0 Z0", "G1 X0 Y10000001 Z0", "G1 X0 Y0 Z10000001", "G1 X-10000001 Y0 Z0", "G1 X0 Y-10000001 Z0", "G1 X0 Y0 Z-10000001",
		"G1 X9999999999 Y0 Z0", "G1 X0 Y-9999999999 Z0", "G1 X0 Y0 Z4294967296",
	} {
		for _, n := range []string{"0", "1", "100000"} {
			refuses(t, summed("N"+n+" "+c), api.ErrRange)
		}
	}
}
