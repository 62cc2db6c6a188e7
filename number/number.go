// Package number reads numbers as the document's texts have them.
package number

// mostDigits keeps a number far below every bound of int.
const mostDigits = 4

// Parse is the number of one to four digits without noughts ahead. It is not
// strconv.Atoi, which takes signs and noughts ahead, too.
func Parse(s string) (int, bool) {
	if s == "" || len(s) > mostDigits || len(s) > 1 && s[0] == '0' {
		return 0, false
	}
	n := 0
	for i := range len(s) {
		if s[i] < '0' || s[i] > '9' {
			return 0, false
		}
		n = 10*n + int(s[i]-'0')
	}
	return n, true
}
