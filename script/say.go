package script

import (
	"strconv"
	"strings"

	"floodgate/api"
)

func sayDone(err error) (string, error) {
	if err != nil {
		return "", err
	}
	return "ok", nil
}

func sayNumber(n int, err error) (string, error) {
	if err != nil {
		return "", err
	}
	return strconv.Itoa(n), nil
}

// saySent packets, one behind the other.
func saySent(l []api.Sent, err error) (string, error) {
	if err != nil {
		return "", err
	}
	if len(l) == 0 {
		return "nothing", nil
	}
	words := make([]string, len(l))
	for i, x := range l {
		words[i] = strconv.Itoa(x.Packet) + ":" + strconv.Itoa(x.From) + "-" + strconv.Itoa(x.To)
	}
	return strings.Join(words, blank), nil
}
