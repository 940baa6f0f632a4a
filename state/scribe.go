package state

import (
	"slices"
	"strings"

	"escheat/api"
	"escheat/box"
	"escheat/event"
	"escheat/name"
	"escheat/rule"
)

// scribe writes into a state of its own what an event does; where that meets an error, it is left half written, and of no use any more.
type scribe struct {
	api.State
}

// Apply: what an event does.
func Apply(s api.State, e api.Event) (api.State, api.Errno) {
	if !Right(s) || !event.Right(e) {
		return Copy(s), api.ErrArg
	}
	w := scribe{Copy(s)}
	w.Clock = max(w.Clock, e.At)
	if err := w.write(e); err != api.OK {
		return Copy(s), err
	}
	return w.State, api.OK
}

func (w *scribe) write(e api.Event) api.Errno {
	switch e.Kind {
	case api.EvCreate:
		return w.create(e.Box)
	case api.EvDelete:
		return w.remove(e.Box)
	case api.EvRename:
		return w.rename(e.Box, e.To)
	case api.EvSubscribe:
		return w.subscribe(e.Box)
	case api.EvForget:
		return w.forget(e.Box)
	case api.EvAppend:
		return w.add(e.Box, api.Msg{Flags: e.Flags, Date: e.Date, Body: e.Body})
	case api.EvStore:
		return w.store(e)
	case api.EvCopy:
		return w.copyTo(e.To, e.Box, e.IDs)
	case api.EvExpunge:
		return w.expunge(e.Box, e.IDs)
	case api.EvRestore:
		return w.restore(e.N)
	case api.EvRule:
		return w.keep(e.Box, e.N)
	case api.EvHold:
		return w.hold(e.Box, e.Set)
	case api.EvRelease:
		return w.release(e.N)
	}
	return w.purge(e.IDs)
}

func (w *scribe) create(mailbox string) api.Errno {
	switch {
	case boxAt(w.State, mailbox) >= 0:
		return api.ErrThere
	case len(w.Boxes) == api.MaxBoxes:
		return api.ErrFull
	case w.NextValid > api.MaxUID:
		return api.ErrUsed
	}
	w.Boxes = append(w.Boxes, api.Box{Name: mailbox, Valid: w.NextValid, Next: 1})
	w.NextValid++
	w.sortBoxes()
	return api.OK
}

// sortBoxes: new names may stand anywhere among the others.
func (w *scribe) sortBoxes() {
	slices.SortFunc(w.Boxes, func(a, b api.Box) int { return strings.Compare(a.Name, b.Name) })
}

func (w *scribe) remove(mailbox string) api.Errno {
	at := boxAt(w.State, mailbox)
	switch {
	case at < 0:
		return api.ErrNone
	case mailbox == inbox:
		return api.ErrArg
	}
	if e := w.bury(mailbox, w.Boxes[at].Msgs); e != api.OK {
		return e
	}
	w.Boxes = slices.Delete(w.Boxes, at, at+1)
	return api.OK
}

func (w *scribe) rename(from, to string) api.Errno {
	switch {
	case boxAt(w.State, from) < 0:
		return api.ErrNone
	case from == inbox || to == from || name.Below(to, from):
		return api.ErrArg
	}
	for i, b := range w.Boxes {
		if b.Name == from || name.Below(b.Name, from) {
			w.Boxes[i].Name = to + b.Name[len(from):]
		}
	}
	if slices.ContainsFunc(w.Boxes, func(b api.Box) bool { return !name.Right(b.Name) }) {
		return api.ErrForm
	}
	w.sortBoxes()
	// Unlike names get unlike new ones: two that are the same are a new one, and one that wasn't renamed.
	if !rises(w.Boxes, boxName) {
		return api.ErrThere
	}
	return api.OK
}

func (w *scribe) subscribe(mailbox string) api.Errno {
	place, there := slices.BinarySearch(w.Subs, mailbox)
	switch {
	case there:
		return api.ErrThere
	case len(w.Subs) == api.MaxSubs:
		return api.ErrFull
	}
	w.Subs = slices.Insert(w.Subs, place, mailbox)
	return api.OK
}

func (w *scribe) forget(mailbox string) api.Errno {
	place, there := slices.BinarySearch(w.Subs, mailbox)
	if !there {
		return api.ErrNone
	}
	w.Subs = slices.Delete(w.Subs, place, place+1)
	return api.OK
}

// add: messages to a mailbox, one behind the other.
func (w *scribe) add(to string, l ...api.Msg) api.Errno {
	at := boxAt(w.State, to)
	if at < 0 {
		return api.ErrNone
	}
	for _, m := range l {
		b, _, e := box.Add(w.Boxes[at], m)
		if e != api.OK {
			return e
		}
		w.Boxes[at] = b
	}
	return api.OK
}

func (w *scribe) store(e api.Event) api.Errno {
	at := boxAt(w.State, e.Box)
	if at < 0 {
		return api.ErrNone
	}
	b, err := box.Store(w.Boxes[at], e.IDs, e.Mode, e.Flags)
	w.Boxes[at] = b
	return err
}

func (w *scribe) copyTo(to, from string, ids []int) api.Errno {
	b, ok := Box(w.State, from)
	if !ok {
		return api.ErrNone
	}
	// All are found first: where a mailbox is copied to itself, what is new in it isn't meant.
	l := []api.Msg{}
	for _, id := range ids {
		m, ok := box.Find(b, id)
		if !ok {
			return api.ErrNone
		}
		l = append(l, m)
	}
	return w.add(to, l...)
}

func (w *scribe) expunge(from string, ids []int) api.Errno {
	at := boxAt(w.State, from)
	if at < 0 {
		return api.ErrNone
	}
	b, gone, e := box.Take(w.Boxes[at], ids)
	if e != api.OK {
		return e
	}
	w.Boxes[at] = b
	return w.bury(from, gone)
}

// bury: a mailbox' messages go to the tombs.
func (w *scribe) bury(from string, l []api.Msg) api.Errno {
	switch {
	case len(w.Tombs)+len(l) > api.MaxTombs:
		return api.ErrFull
	case w.NextTomb+len(l) > maxNext:
		return api.ErrUsed
	}
	for _, m := range l {
		w.Tombs = append(w.Tombs, api.Tomb{ID: w.NextTomb, Box: from, At: w.Clock, Msg: m})
		w.NextTomb++
	}
	return api.OK
}

func (w *scribe) restore(id int) api.Errno {
	at := tombAt(w.State, id)
	if at < 0 {
		return api.ErrNone
	}
	if e := w.add(w.Tombs[at].Box, w.Tombs[at].Msg); e != api.OK {
		return e
	}
	w.Tombs = slices.Delete(w.Tombs, at, at+1)
	return api.OK
}

func (w *scribe) keep(mailbox string, seconds int) api.Errno {
	w.Rules = rule.Set(w.Rules, mailbox, seconds)
	if len(w.Rules) > maxRules {
		return api.ErrFull
	}
	return api.OK
}

func (w *scribe) hold(mailbox string, set []api.Range) api.Errno {
	switch {
	case len(w.Holds) == api.MaxHolds:
		return api.ErrFull
	case w.NextHold > api.MaxUID:
		return api.ErrUsed
	}
	w.Holds = append(w.Holds, ownHold(api.Hold{ID: w.NextHold, Box: mailbox, Set: set}))
	w.NextHold++
	return api.OK
}

func (w *scribe) release(id int) api.Errno {
	at := slices.IndexFunc(w.Holds, func(h api.Hold) bool { return h.ID == id })
	if at < 0 {
		return api.ErrNone
	}
	w.Holds = slices.Delete(w.Holds, at, at+1)
	return api.OK
}

func (w *scribe) purge(ids []int) api.Errno {
	if slices.ContainsFunc(ids, func(id int) bool { return tombAt(w.State, id) < 0 }) {
		return api.ErrNone
	}
	due := rule.Due(w.Tombs, w.Rules, w.Holds, w.Clock)
	if slices.ContainsFunc(ids, func(id int) bool { return !slices.Contains(due, id) }) {
		return api.ErrHeld
	}
	w.Tombs = slices.DeleteFunc(w.Tombs, func(t api.Tomb) bool { return slices.Contains(ids, t.ID) })
	return api.OK
}
