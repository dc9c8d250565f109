package pap

import (
	"bytes"
	"strings"

	"umpire/api"
)

// This file tells the chapter a second time, without a type that is cut off: what the tests hold the calls against.

// putByWords writes byte by byte, once all texts have been found short.
func putByWords(texts []string) ([]byte, api.Errno) {
	for _, s := range texts {
		if len(s) >= 256 {
			return nil, api.ErrLong
		}
	}
	var b bytes.Buffer
	for _, s := range texts {
		b.WriteByte(byte(len(s)))
		for i := range len(s) {
			b.WriteByte(s[i])
		}
	}
	return b.Bytes(), api.OK
}

// readByWords counts down how many bytes of the text that is being read are to come yet.
func readByWords(b []byte, count int) ([]string, api.Errno) {
	var texts []string
	owed := 0
	for _, c := range b {
		switch {
		case owed > 0:
			texts[len(texts)-1] += string([]byte{c})
			owed--
		case len(texts) < count:
			texts = append(texts, "")
			owed = int(c)
		default:
			return nil, api.ErrForm
		}
	}
	if owed > 0 || len(texts) < count {
		return nil, api.ErrEnd
	}
	return texts, api.OK
}

func readAskByWords(b []byte) (api.Logins, api.Errno) {
	texts, e := readByWords(b, 2)
	if e != api.OK {
		return api.Logins{}, e
	}
	return api.Logins{Name: texts[0], Word: texts[1]}, api.OK
}

func readSayByWords(b []byte) (string, api.Errno) {
	texts, e := readByWords(b, 1)
	return strings.Join(texts, ""), e
}
