package script

import (
	"floodgate/api"
	"floodgate/link"
)

// blank is what stands between words.
const blank = " "

// mostDigits of a number.
const mostDigits = 7

// readNumber that a word tells. Package strconv would also take signs and needless zeros.
func readNumber(word string) (int, error) {
	if len(word) < 1 || len(word) > mostDigits {
		return 0, api.ErrText
	}
	if word[0] == '0' && len(word) > 1 {
		return 0, api.ErrText
	}
	n := 0
	for _, c := range []byte(word) {
		if c < '0' || c > '9' {
			return 0, api.ErrText
		}
		n = 10*n + int(c-'0')
	}
	return n, nil
}

func readNumbers(words []string) ([]int, error) {
	out := make([]int, len(words))
	for i, word := range words {
		n, err := readNumber(word)
		if err != nil {
			return nil, err
		}
		out[i] = n
	}
	return out, nil
}

func readDigit(word string) (int, error) {
	if len(word) != 1 {
		return 0, api.ErrText
	}
	return readNumber(word)
}

// readFlow where a line that names none is none.
func readFlow(word string) (int, error) {
	n, err := readDigit(word)
	if err != nil {
		return 0, err
	}
	if !link.IsFlow(n) {
		return 0, api.ErrText
	}
	return n, nil
}

// readLines of a curve, by Burst and Rate.
func readLines(words []string) ([]api.Line, error) {
	if len(words)%2 != 0 {
		return nil, api.ErrText
	}
	numbers, err := readNumbers(words)
	if err != nil {
		return nil, err
	}
	out := make([]api.Line, len(words)/2)
	for i := range out {
		out[i] = api.Line{Burst: numbers[2*i], Rate: numbers[2*i+1]}
	}
	return out, nil
}
