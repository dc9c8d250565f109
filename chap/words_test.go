package chap

import (
	"bytes"
	"crypto/md5"

	"umpire/api"
)

// This file tells the chapter a second time, by the library's MD5: what the tests hold the calls against.

// putByWords writes byte by byte.
func putByWords(c api.Chaps) ([]byte, api.Errno) {
	if size := len(c.Value); size < 1 || size >= 256 {
		return nil, api.ErrArg
	}
	if len(c.Name) >= 65527 {
		return nil, api.ErrLong
	}
	var b bytes.Buffer
	b.WriteByte(byte(len(c.Value)))
	for _, v := range c.Value {
		b.WriteByte(v)
	}
	for i := range len(c.Name) {
		b.WriteByte(c.Name[i])
	}
	return b.Bytes(), api.OK
}

// readByWords counts down how many bytes of the Value are to come yet.
func readByWords(b []byte) (api.Chaps, api.Errno) {
	var value, name bytes.Buffer
	owed := -1
	for _, v := range b {
		switch {
		case owed < 0 && v == 0:
			return api.Chaps{}, api.ErrArg
		case owed < 0:
			owed = int(v)
		case owed > 0:
			value.WriteByte(v)
			owed--
		default:
			name.WriteByte(v)
		}
	}
	if owed != 0 {
		return api.Chaps{}, api.ErrEnd
	}
	if name.Len() >= 65527 {
		return api.Chaps{}, api.ErrLong
	}
	return api.Chaps{Value: value.Bytes(), Name: name.String()}, api.OK
}

// answerByWords goes by what is left of an Id by 256, without a sign.
func answerByWords(id int, secret string, value []byte) [16]byte {
	left := id % 256
	if left < 0 {
		left += 256
	}
	h := md5.New()
	h.Write([]byte{byte(left)})
	h.Write([]byte(secret))
	h.Write(value)
	var digest [16]byte
	h.Sum(digest[:0])
	return digest
}

// rightByWords holds byte against byte.
func rightByWords(id int, secret string, value, answer []byte) bool {
	digest := answerByWords(id, secret, value)
	if len(answer) != len(digest) {
		return false
	}
	for i, v := range answer {
		if v != digest[i] {
			return false
		}
	}
	return true
}
