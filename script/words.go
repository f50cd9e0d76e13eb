package script

import (
	"strconv"
	"strings"
)

// mostDigits of a number.
const mostDigits = 5

// input is what the words of a line say to its command.
type input struct {
	who     int
	numbers []int
	names   []string
	// text of an object, a name or a key: no command takes more than one of them.
	text string
}

// reader takes in what a word says: false where it is none of its kind.
type reader func(in *input, word string) bool

func client(in *input, word string) bool {
	if len(word) != 1 || !isDigit(rune(word[0])) {
		return false
	}
	in.who = int(word[0] - '0')
	return true
}

func number(in *input, word string) bool {
	n, err := strconv.Atoi(word)
	// As it would be written: so there is no sign and no needless zero.
	if err != nil || n < 0 || len(word) > mostDigits || strconv.Itoa(n) != word {
		return false
	}
	in.numbers = append(in.numbers, n)
	return true
}

// object is a text of letters and digits.
func object(in *input, word string) bool {
	in.text = word
	return word != "" && !strings.ContainsFunc(word, func(r rune) bool { return !isDigit(r) && !isLetter(r) })
}

// some is a name or a key. Whether it is a right one its package tells; a word that is empty is one blank too many.
func some(in *input, word string) bool {
	in.text = word
	return word != ""
}

// names are split alone: which of them are names is told by package ring.
func names(in *input, word string) bool {
	in.names = strings.Split(word, ",")
	return word != ""
}

func isDigit(r rune) bool { return r >= '0' && r <= '9' }

func isLetter(r rune) bool { return r >= 'a' && r <= 'z' || r >= 'A' && r <= 'Z' }
