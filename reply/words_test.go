package reply

import (
	"fmt"

	"umpire/api"
)

// This file tells the chapter a second time, without the layers below: what the tests hold the calls against.

// optionsByWords reads options, each from the end of the one ahead of it on.
func optionsByWords(b []byte) ([]api.Option, bool) {
	if len(b) == 0 {
		return nil, true
	}
	if len(b) == 1 || b[1] < 2 || int(b[1]) > len(b) {
		return nil, false
	}
	first := api.Option{Type: int(b[0]), Data: b[2:b[1]]}
	rest, ok := optionsByWords(b[b[1]:])
	if !ok {
		return nil, false
	}
	return append([]api.Option{first}, rest...), true
}

// told is an option as a text, so that two are alike just if their texts are.
func told(o api.Option) string {
	return fmt.Sprint(o.Type, " of ", o.Data)
}

func acksByWords(q, p api.Packet) bool {
	return q.Code == 1 && p.Code == 2 && p.Id == q.Id && string(p.Data) == string(q.Data)
}

// bothByWords reads the options of both, if p is of that Code and of q's Id, and has some.
func bothByWords(q, p api.Packet, code int) (asked, said []api.Option, ok bool) {
	asked, okAsked := optionsByWords(q.Data)
	said, okSaid := optionsByWords(p.Data)
	return asked, said, q.Code == 1 && p.Code == code && p.Id == q.Id && okAsked && okSaid && len(said) > 0
}

// rejectsByWords counts how many of p's options stand, in their order, among q's.
func rejectsByWords(q, p api.Packet) bool {
	asked, said, ok := bothByWords(q, p, 4)
	if !ok {
		return false
	}
	// most[j] is the greatest count of options that the first ones of both have in common, in their order.
	most := make([]int, len(said)+1)
	for _, o := range asked {
		next := make([]int, len(said)+1)
		for j, s := range said {
			next[j+1] = max(next[j], most[j+1])
			if told(s) == told(o) {
				next[j+1] = max(next[j+1], most[j]+1)
			}
		}
		most = next
	}
	return most[len(said)] == len(said)
}

// naksByWords asks one condition of the chapter after the other.
func naksByWords(q, p api.Packet) bool {
	asked, said, ok := bothByWords(q, p, 3)
	if !ok {
		return false
	}
	for i, o := range said {
		for _, other := range said[:i] {
			if other.Type == o.Type {
				return false
			}
		}
		for _, other := range asked {
			if told(other) == told(o) {
				return false
			}
		}
	}
	return fmt.Sprint(typesOf(said)) == fmt.Sprint(typesInOrder(asked, said))
}

func typesOf(l []api.Option) []int {
	var types []int
	for _, o := range l {
		types = append(types, o.Type)
	}
	return types
}

// typesInOrder are the Types of what is said, as they would have to stand: those that were asked for as they first were, and the others behind, as they are.
func typesInOrder(asked, said []api.Option) []int {
	has := func(types []int, t int) bool {
		for _, other := range types {
			if other == t {
				return true
			}
		}
		return false
	}
	var types []int
	for _, t := range typesOf(asked) {
		if has(typesOf(said), t) && !has(types, t) {
			types = append(types, t)
		}
	}
	for _, t := range typesOf(said) {
		if !has(typesOf(asked), t) {
			types = append(types, t)
		}
	}
	return types
}

func eventByWords(l api.Link, p api.Packet) int {
	q := api.Packet{Code: 1, Id: l.Id, Data: []byte(l.Opts)}
	said, ok := optionsByWords(p.Data)
	switch {
	case !l.Sent:
		return 0
	case acksByWords(q, p):
		return 9
	case p.Code == 3 && p.Id == l.Id && ok && len(said) > 0:
		return 10
	case rejectsByWords(q, p):
		return 10
	}
	return 0
}

// cutByWords takes byte after byte, as long as one less than n have been taken.
func cutByWords(b []byte, n int) []byte {
	var taken []byte
	for _, v := range b {
		if len(taken) >= n {
			break
		}
		taken = append(taken, v)
	}
	return taken
}

func codeRejectByWords(b []byte, mru int) []byte {
	if mru < 4 {
		return nil
	}
	return cutByWords(b, min(mru-4, 65527))
}

func protoRejectByWords(proto int, b []byte, mru int) []byte {
	told := []byte{byte(proto / 256), byte(proto % 256)}
	if mru < 6 {
		return told
	}
	return append(told, cutByWords(b, min(mru-6, 65525))...)
}
