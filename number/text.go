package number

import (
	"strconv"
	"strings"
)

// Digits are those of n, at least count of them, with a - in front if n is below 0.
func Digits(n, count int) string {
	s, below := strings.CutPrefix(strconv.Itoa(n), "-")
	s = strings.Repeat("0", max(0, count-len(s))) + s
	if below {
		return "-" + s
	}
	return s
}
