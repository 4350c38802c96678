package network

import (
	"slices"

	"identity/api"
	"identity/change"
	"identity/csn"
)

// message is what one replica tells another one.
type message struct {
	from, to int
	crashes  int          // how often the sender had crashed
	base     []api.CSN    // what the sender knew that the receiver had
	changes  []api.Change // what the sender had besides
	vector   []api.CSN    // what the sender had in all
}

// draft returns the message that one replica can send to another one now.
func (w *World) draft(from, to int) message {
	n := w.nodes[from]
	base := n.known[to]
	return message{from: from, to: to, crashes: n.crashes, base: base, changes: n.Since(base), vector: n.Vector()}
}

// Send puts the changes of one replica that another one is not known to have into a message.
func (w *World) Send(from, to int) api.Errno {
	switch {
	case !w.made():
		return api.ErrNil
	case !w.has(from) || !w.has(to):
		return api.ErrRange
	case from == to:
		return api.ErrArg
	}
	m := w.draft(from, to)
	switch {
	case len(m.changes) == 0:
		return api.ErrNone
	case len(w.messages) >= api.MaxItems:
		return api.ErrLimit
	}
	w.messages = append(w.messages, m)
	return api.OK
}

// hasMessage reports whether there is a message with a number.
func (w *World) hasMessage(k int) bool {
	return 0 <= k && k < len(w.messages)
}

// remove removes message k.
func (w *World) remove(k int) {
	w.messages = slices.Delete(w.messages, k, k+1)
}

// Deliver delivers message k, and removes it unless again is true.
func (w *World) Deliver(k int, again bool) api.Errno {
	switch {
	case !w.made():
		return api.ErrNil
	case !w.hasMessage(k):
		return api.ErrRange
	}
	e := w.deliver(w.messages[k])
	// ErrState is always about the base: a replica has all changes with its
	// own number that there are, so that Receive does not return it.
	if e == api.ErrState || e == api.OK && !again {
		w.remove(k)
	}
	return e
}

// deliver gives the receiver of a message the changes.
func (w *World) deliver(m message) api.Errno {
	from, to := w.nodes[m.from], w.nodes[m.to]
	had := to.Vector()
	if !csn.Within(m.base, had) {
		return api.ErrState
	}
	if e := to.Receive(m.changes); e != api.OK {
		return e
	}
	// A replica has all changes up to those of its vector, so that the vector
	// tells which ones it did not have.
	to.record(change.Since(m.changes, had))
	from.known[m.to] = csn.Join(from.known[m.to], m.vector)
	// A sender that has crashed can have lost what it sent.
	if from.crashes == m.crashes {
		to.known[m.from] = csn.Join(to.known[m.from], m.vector)
	}
	return api.OK
}

// Lose removes message k.
func (w *World) Lose(k int) api.Errno {
	switch {
	case !w.made():
		return api.ErrNil
	case !w.hasMessage(k):
		return api.ErrRange
	}
	w.remove(k)
	return api.OK
}

// Settle sends and delivers until the replicas have converged, and returns the number of messages.
func (w *World) Settle() int {
	if !w.made() {
		return 0
	}
	total := 0
	for n := w.round(); n > 0; n = w.round() {
		total += n
	}
	for _, n := range w.nodes {
		n.journal.Sync()
	}
	return total
}

// round sends a message from each replica to each other one, and returns how
// many were delivered.
func (w *World) round() int {
	delivered := 0
	for from := range w.nodes {
		for to := range w.nodes {
			if from == to {
				continue
			}
			if m := w.draft(from, to); len(m.changes) > 0 && w.deliver(m) == api.OK {
				delivered++
			}
		}
	}
	return delivered
}
