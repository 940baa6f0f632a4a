package keep

import (
	"slices"
	"strconv"
	"strings"

	"escheat/api"
	"escheat/kv"
	"escheat/pack"
	"escheat/record"
	"escheat/state"
)

// What keys begin with; the first two are keys as they stand.
const (
	keyClock  = "!"
	keyChain  = "#"
	keyBox    = "b"
	keyHold   = "h"
	keyMsg    = "m"
	keyRecord = "r"
	keySub    = "s"
	keyTomb   = "t"
	keyRule   = "u"
)

// keyDigits is how many each number has in a key, so that keys rise as their numbers do.
const keyDigits = 10

// Keys: of a state and a chain.
func Keys(s api.State, c api.Chain) []api.Pair {
	l := []api.Pair{
		{Key: keyClock, Val: laid(s.Clock, s.NextValid, s.NextTomb, s.NextHold)},
		{Key: keyChain, Val: string(pack.Num(pack.Text(nil, string(c.Head[:])), c.Count))},
	}
	for _, b := range s.Boxes {
		l = append(l, api.Pair{Key: keyBox + b.Name, Val: laid(b.Valid, b.Next)})
		for _, m := range b.Msgs {
			l = append(l, api.Pair{Key: keyMsg + digits(b.Valid) + digits(m.UID), Val: string(msgBehind(nil, m))})
		}
	}
	for _, name := range s.Subs {
		l = append(l, api.Pair{Key: keySub + name})
	}
	for _, r := range s.Rules {
		l = append(l, api.Pair{Key: keyRule + r.Box, Val: laid(r.Keep)})
	}
	for _, t := range s.Tombs {
		l = append(l, api.Pair{Key: keyTomb + digits(t.ID), Val: string(msgBehind(pack.Text(pack.Num(nil, t.At), t.Box), t.Msg))})
	}
	for _, h := range s.Holds {
		l = append(l, api.Pair{Key: keyHold + digits(h.ID), Val: string(setBehind(pack.Text(nil, h.Box), h.Set))})
	}
	return rising(l)
}

// Load: keys' state and chain.
func Load(l []api.Pair) (api.State, api.Chain, api.Errno) {
	told := withoutRecords(l)
	var w loader
	for _, p := range told {
		w.take(p)
	}
	if !state.Right(w.State) || !record.Right(w.Chain) || !slices.Equal(Keys(w.State, w.Chain), told) {
		return api.State{}, api.Chain{}, api.ErrForm
	}
	return w.State, w.Chain, api.OK
}

// loader gathers what pairs tell. It takes any pair as far as it can be read: whether the pairs are just the Keys of what it has in the end, is asked then, of all of them at once.
type loader struct {
	api.State
	api.Chain
}

func (w *loader) take(p api.Pair) {
	r := pack.From([]byte(p.Val))
	letter, rest := p.Key[:min(len(p.Key), 1)], p.Key[min(len(p.Key), 1):]
	switch letter {
	case keyClock:
		w.Clock, w.NextValid, w.NextTomb, w.NextHold = r.Num(), r.Num(), r.Num(), r.Num()
	case keyChain:
		copy(w.Head[:], r.Text())
		w.Count = r.Num()
	case keyBox:
		w.Boxes = append(w.Boxes, api.Box{Name: rest, Valid: r.Num(), Next: r.Num()})
	case keyHold:
		w.Holds = append(w.Holds, api.Hold{ID: number(rest), Box: r.Text(), Set: nextSet(r)})
	case keyMsg:
		w.takeMsg(number(rest[:min(len(rest), keyDigits)]), nextMsg(r))
	case keySub:
		w.Subs = append(w.Subs, rest)
	case keyTomb:
		w.Tombs = append(w.Tombs, api.Tomb{ID: number(rest), At: r.Num(), Box: r.Text(), Msg: nextMsg(r)})
	case keyRule:
		w.Rules = append(w.Rules, api.Rule{Box: rest, Keep: r.Num()})
	}
}

// takeMsg: a message of the mailbox of that Valid, whose key comes ahead of its messages'.
func (w *loader) takeMsg(valid int, m api.Msg) {
	at := slices.IndexFunc(w.Boxes, func(b api.Box) bool { return b.Valid == valid })
	if at >= 0 {
		w.Boxes[at].Msgs = append(w.Boxes[at].Msgs, m)
	}
}

// laid: the bytes of numbers.
func laid(l ...int) string {
	return string(pack.Num(nil, l...))
}

// msgBehind: b, and a message's bytes behind it.
func msgBehind(b []byte, m api.Msg) []byte {
	return pack.Text(pack.Num(b, m.UID, m.Flags, m.Date), string(m.Body))
}

// setBehind: b, and behind it how many ranges there are, and the ends of each.
func setBehind(b []byte, set []api.Range) []byte {
	nums := []int{len(set)}
	for _, r := range set {
		nums = append(nums, r.From, r.To)
	}
	return pack.Num(b, nums...)
}

// nextMsg: the message that is read next.
func nextMsg(r *pack.Reader) api.Msg {
	return api.Msg{UID: r.Num(), Flags: r.Num(), Date: r.Num(), Body: []byte(r.Text())}
}

// nextSet: the ranges that are read next.
func nextSet(r *pack.Reader) []api.Range {
	var set []api.Range
	for range r.Count(api.MaxNums) {
		set = append(set, api.Range{From: r.Num(), To: r.Num()})
	}
	return set
}

// digits: the last ten of a number, zeros ahead of a smaller one.
func digits(n int) string {
	s := strings.Repeat("0", keyDigits) + strconv.Itoa(n)
	return s[len(s)-keyDigits:]
}

// number: what digits tell; 0, if that isn't one.
func number(s string) int {
	n, err := strconv.Atoi(s)
	if err != nil {
		return 0
	}
	return n
}

// rising: pairs, by the order of their keys.
func rising(l []api.Pair) []api.Pair {
	slices.SortFunc(l, func(a, b api.Pair) int { return strings.Compare(a.Key, b.Key) })
	return l
}

func recordKey(n int) string {
	return keyRecord + digits(n)
}

func isRecord(key string) bool {
	return strings.HasPrefix(key, keyRecord)
}

// recordPairs: those of a store's records, in order.
func recordPairs(s api.Store) []api.Pair {
	return kv.Prefix(s, keyRecord)
}

// withoutRecords: the pairs that tell a state and a chain.
func withoutRecords(l []api.Pair) []api.Pair {
	var others []api.Pair
	for _, p := range l {
		if !isRecord(p.Key) {
			others = append(others, p)
		}
	}
	return others
}

// withRecord: pairs, with the record of that number among them.
func withRecord(l []api.Pair, n int, b []byte) []api.Pair {
	return rising(append(l, api.Pair{Key: recordKey(n), Val: string(b)}))
}
