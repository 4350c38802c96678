package network_test

import (
	"slices"
	"strconv"
	"strings"
	"testing"

	"identity/api"
	"identity/network"
)

// P20.3 to P20.5, P20.7: the examples of the chapter.
func TestExamples(t *testing.T) {
	w := world(t, 2)
	add(t, w, 0, "a")
	want(t, "Send", w.Send(0, 1), api.OK)
	want(t, "Deliver", w.Deliver(0, false), api.OK)
	has(t, w, "example 1", "a", "a")
	want(t, "Send", w.Send(0, 1), api.ErrNone)
	want(t, "Crash", w.Crash(1, 0), api.OK)
	has(t, w, "example 2", "a", "")
	if n := w.Settle(); n != 1 {
		t.Errorf("Settle = %d", n)
	}
	has(t, w, "example 2", "a", "a")
	w = world(t, 2)
	add(t, w, 0, "a")
	want(t, "Send", w.Send(0, 1), api.OK)
	add(t, w, 0, "b")
	want(t, "Send", w.Send(0, 1), api.OK)
	want(t, "Lose", w.Lose(0), api.OK)
	want(t, "Deliver", w.Deliver(0, false), api.OK)
	has(t, w, "example 3", "a b", "a b")
}

// P20.3: the errors of Send in their order.
func TestSendErrors(t *testing.T) {
	w := world(t, 3)
	add(t, w, 0, "a")
	for range api.MaxItems {
		want(t, "Send", w.Send(0, 1), api.OK)
	}
	want(t, "Send from no replica", w.Send(-1, -1), api.ErrRange)
	want(t, "Send to no replica", w.Send(0, 3), api.ErrRange)
	want(t, "Send to itself", w.Send(0, 0), api.ErrArg)
	want(t, "Send to itself without changes", w.Send(1, 1), api.ErrArg)
	want(t, "Send without changes", w.Send(1, 2), api.ErrNone)
	want(t, "Send of one more", w.Send(0, 1), api.ErrLimit)
	want(t, "Send of one more", w.Send(0, 2), api.ErrLimit)
	if w.Messages() != api.MaxItems {
		t.Errorf("%d messages", w.Messages())
	}
	want(t, "Deliver again", w.Deliver(api.MaxItems-1, true), api.OK)
	want(t, "Send of one more", w.Send(0, 2), api.ErrLimit)
	// What the receiver is known to have is not sent, which comes first.
	want(t, "Send of what is known", w.Send(0, 1), api.ErrNone)
	want(t, "Lose", w.Lose(7), api.OK)
	want(t, "Send", w.Send(0, 2), api.OK)
	want(t, "Send of one more", w.Send(0, 2), api.ErrLimit)
	want(t, "Deliver", w.Deliver(api.MaxItems-1, false), api.OK)
	has(t, w, "the last message", "a", "a", "a")
	if w.Messages() != api.MaxItems-1 {
		t.Errorf("%d messages", w.Messages())
	}
}

// P20.3: a message has what the sender had when it was sent.
func TestSendSnapshot(t *testing.T) {
	w := world(t, 3)
	add(t, w, 0, "a")
	want(t, "Send", w.Send(0, 1), api.OK)
	add(t, w, 0, "b")
	want(t, "Delete", w.Delete(0, "ou=a,ou=x"), api.OK)
	want(t, "Deliver", w.Deliver(0, false), api.OK)
	has(t, w, "the first message", "b", "a")
	// The receiver is known to have the changes of the message only.
	pass(t, w, 0, 1)
	has(t, w, "the second message", "b", "b")
	want(t, "Send of nothing", w.Send(0, 1), api.ErrNone)
	want(t, "Send of nothing", w.Send(1, 0), api.ErrNone)
	// A sender sends the changes of others, too.
	add(t, w, 2, "c")
	pass(t, w, 2, 1)
	pass(t, w, 1, 0)
	has(t, w, "changes of others", "b c", "b c", "c")
	want(t, "Send of nothing", w.Send(0, 1), api.ErrNone)
	pass(t, w, 0, 2)
	has(t, w, "changes of both", "b c", "b c", "b c")
	// Replica 2 is not known to have what replica 1 was not told.
	want(t, "Send", w.Send(1, 2), api.OK)
	want(t, "Send", w.Send(2, 1), api.OK)
}

// P20.4: messages are delivered in any order, and keep their numbers by it.
func TestDeliverOrder(t *testing.T) {
	w := world(t, 4)
	for i, s := range []string{"a", "b", "c"} {
		add(t, w, i, s)
		want(t, "Send", w.Send(i, 3), api.OK)
	}
	want(t, "Deliver of message 1", w.Deliver(1, false), api.OK)
	has(t, w, "message 1", "a", "b", "c", "b")
	want(t, "Deliver of message 2", w.Deliver(2, false), api.ErrRange)
	want(t, "Deliver of message -1", w.Deliver(-1, true), api.ErrRange)
	want(t, "Deliver of message 1", w.Deliver(1, true), api.OK)
	has(t, w, "message 2", "a", "b", "c", "b c")
	want(t, "Lose", w.Lose(1), api.OK)
	want(t, "Lose", w.Lose(1), api.ErrRange)
	want(t, "Lose", w.Lose(-1), api.ErrRange)
	if w.Messages() != 1 {
		t.Errorf("%d messages", w.Messages())
	}
	want(t, "Deliver of message 0", w.Deliver(0, false), api.OK)
	has(t, w, "message 0", "a", "b", "c", "a b c")
	if w.Messages() != 0 {
		t.Errorf("%d messages", w.Messages())
	}
	want(t, "Deliver of nothing", w.Deliver(0, false), api.ErrRange)
	want(t, "Lose of nothing", w.Lose(0), api.ErrRange)
}

// P20.4: both sides know what the receiver has after a message.
func TestKnowledge(t *testing.T) {
	w := received(t)
	want(t, "Send back", w.Send(1, 0), api.ErrNone)
	want(t, "Send again", w.Send(0, 1), api.ErrNone)
	// The base of a message is what was known when it was sent.
	add(t, w, 1, "b")
	pass(t, w, 1, 0)
	want(t, "Send back", w.Send(0, 1), api.ErrNone)
	// A message that is lost leaves no knowledge.
	add(t, w, 0, "c")
	want(t, "Send", w.Send(0, 1), api.OK)
	want(t, "Lose", w.Lose(0), api.OK)
	pass(t, w, 0, 1)
	has(t, w, "messages", "a b c", "a b c")
	// An older message that arrives later takes no knowledge away.
	w = world(t, 2)
	add(t, w, 0, "a")
	want(t, "Send", w.Send(0, 1), api.OK)
	add(t, w, 0, "b")
	want(t, "Send", w.Send(0, 1), api.OK)
	want(t, "Deliver", w.Deliver(1, false), api.OK)
	want(t, "Deliver", w.Deliver(0, false), api.OK)
	want(t, "Send again", w.Send(0, 1), api.ErrNone)
	want(t, "Send back", w.Send(1, 0), api.ErrNone)
	has(t, w, "messages", "a b", "a b")
}

// P20.4: a message whose base the receiver has lost is removed in any case.
func TestBaseLost(t *testing.T) {
	for _, again := range []bool{false, true} {
		w := received(t)
		add(t, w, 0, "b")
		want(t, "Send", w.Send(0, 1), api.OK)
		want(t, "Send", w.Send(0, 1), api.OK)
		want(t, "Crash", w.Crash(1, 0), api.OK)
		want(t, "Send", w.Send(0, 1), api.OK)
		want(t, "Deliver of a part", w.Deliver(0, again), api.ErrState)
		if w.Messages() != 2 {
			t.Errorf("%d messages", w.Messages())
		}
		has(t, w, "ErrState", "a b", "")
		want(t, "Send back", w.Send(1, 0), api.ErrNone)
		// Nothing is known, so that the message after it has all changes.
		want(t, "Deliver of all", w.Deliver(1, true), api.OK)
		has(t, w, "all changes", "a b", "a b")
		// Now the base is there again.
		want(t, "Deliver of a part", w.Deliver(0, true), api.OK)
		if w.Messages() != 2 {
			t.Errorf("%d messages", w.Messages())
		}
		want(t, "Crash", w.Crash(1, 0), api.OK)
		want(t, "Deliver of a part", w.Deliver(0, again), api.ErrState)
		want(t, "Deliver of all", w.Deliver(0, again), api.OK)
		has(t, w, "all changes", "a b", "a b")
	}
}

// P20.4: a base that the receiver has lost in part.
func TestBaseLostPartly(t *testing.T) {
	w := received(t)
	want(t, "Modify", w.Modify(1, "ou=a,ou=x", nil), api.OK)
	add(t, w, 0, "b")
	pass(t, w, 0, 1)
	add(t, w, 0, "c")
	want(t, "Send", w.Send(0, 1), api.OK)
	want(t, "Crash", w.Crash(1, 0), api.OK)
	has(t, w, "Crash", "a b c", "a")
	want(t, "Deliver", w.Deliver(0, false), api.ErrState)
	has(t, w, "ErrState", "a b c", "a")
	// A base that is durable is not lost.
	w = received(t)
	want(t, "Modify", w.Modify(1, "ou=a,ou=x", nil), api.OK)
	add(t, w, 0, "b")
	want(t, "Send", w.Send(0, 1), api.OK)
	want(t, "Crash", w.Crash(1, 0), api.OK)
	want(t, "Deliver", w.Deliver(0, false), api.OK)
	has(t, w, "a durable base", "a b", "a b")
}

// P20.4: what is known after a message whose receiver has crashed since it was
// sent, but lost nothing of its base.
func TestReceiverCrashed(t *testing.T) {
	w := world(t, 2)
	add(t, w, 0, "a")
	want(t, "Send", w.Send(0, 1), api.OK)
	want(t, "Crash", w.Crash(1, 0), api.OK)
	want(t, "Deliver", w.Deliver(0, false), api.OK)
	has(t, w, "a message", "a", "a")
	want(t, "Send again", w.Send(0, 1), api.ErrNone)
	want(t, "Send back", w.Send(1, 0), api.ErrNone)
}

// P20.4: a receiver does not conclude from a message that its sender, which has
// crashed since, still has what it sent; but the sender concludes that the
// receiver has it.
func TestSenderCrashed(t *testing.T) {
	w := world(t, 3)
	add(t, w, 1, "b")
	add(t, w, 0, "a")
	pass(t, w, 0, 1)
	want(t, "Send", w.Send(1, 2), api.OK)
	want(t, "Crash", w.Crash(1, 0), api.OK)
	want(t, "Deliver", w.Deliver(0, true), api.OK)
	has(t, w, "a message", "a", "b", "a b")
	want(t, "Send again", w.Send(1, 2), api.ErrNone)
	want(t, "Send back", w.Send(2, 1), api.OK)
	add(t, w, 1, "c")
	want(t, "Send", w.Send(1, 2), api.OK)
	want(t, "Deliver", w.Deliver(2, false), api.OK)
	has(t, w, "two messages", "a", "b c", "a b c")
	// This message was sent after the crash, so that both sides know. It had
	// no change of replica 0.
	want(t, "Send back", w.Send(2, 1), api.OK)
	want(t, "Deliver back", w.Deliver(2, false), api.OK)
	has(t, w, "three messages", "a", "a b c", "a b c")
	want(t, "Send again", w.Send(1, 2), api.ErrNone)
	want(t, "Send back", w.Send(2, 1), api.ErrNone)
	// The older ones tell less than that.
	want(t, "Deliver back", w.Deliver(1, false), api.OK)
	want(t, "Deliver again", w.Deliver(0, false), api.OK)
	want(t, "Send again", w.Send(1, 2), api.ErrNone)
	want(t, "Send back", w.Send(2, 1), api.ErrNone)
}

// P20.4: the crash of another replica does not matter, and one crash of the
// sender before it sent the message does not either.
func TestOthersCrashed(t *testing.T) {
	w := world(t, 3)
	add(t, w, 0, "a")
	want(t, "Crash", w.Crash(0, 0), api.OK)
	want(t, "Send", w.Send(0, 1), api.OK)
	want(t, "Crash", w.Crash(2, 0), api.OK)
	want(t, "Deliver", w.Deliver(0, false), api.OK)
	want(t, "Send back", w.Send(1, 0), api.ErrNone)
	add(t, w, 1, "b")
	want(t, "Crash", w.Crash(2, 0), api.OK)
	pass(t, w, 1, 0)
	want(t, "Send back", w.Send(0, 1), api.ErrNone)
	has(t, w, "messages", "a b", "a b", "")
}

// P20.5: after a crash the replica knows nothing about the others, and they
// know nothing about it, also if it lost nothing.
func TestCrashKnowledge(t *testing.T) {
	settled := func() *network.World {
		w := world(t, 3)
		add(t, w, 0, "a")
		if n := w.Settle(); n != 3 {
			t.Errorf("Settle = %d", n)
		}
		for from := range 3 {
			for to := range 3 {
				if from != to {
					want(t, "Send of nothing", w.Send(from, to), api.ErrNone)
				}
			}
		}
		return w
	}
	for i := range 3 {
		w := settled()
		want(t, "Crash", w.Crash(i, 0), api.OK)
		has(t, w, "Crash", "a", "a", "a")
		for from := range 3 {
			for to := range 3 {
				expected := api.ErrNone
				if from == to {
					expected = api.ErrArg
				} else if from == i || to == i {
					expected = api.OK
				}
				want(t, "Send from "+strconv.Itoa(from)+" to "+strconv.Itoa(to), w.Send(from, to), expected)
			}
		}
	}
}

// P20.7: Settle delivers to each replica, makes the journals durable, and
// counts the messages.
func TestSettle(t *testing.T) {
	for _, x := range []struct {
		adds  []int
		count int
	}{{[]int{0, 0}, 0}, {[]int{1, 0}, 1}, {[]int{0, 1}, 1}, {[]int{1, 1}, 2}, {[]int{0, 0, 1}, 3}, {[]int{1, 0, 0}, 3}, {[]int{0, 1, 0}, 3}, {[]int{1, 1, 1}, 7}, {[]int{2, 0, 3}, 6}} {
		w := world(t, len(x.adds))
		for i, n := range x.adds {
			for k := range n {
				add(t, w, i, strconv.Itoa(i)+"-"+strconv.Itoa(k))
			}
		}
		if n := w.Settle(); n != x.count {
			t.Errorf("%v: Settle = %d", x, n)
		}
		before := values(w, 0)
		for i := range x.adds {
			want(t, "Crash", w.Crash(i, 0), api.OK)
			if values(w, i) != before || !w.Converged() {
				t.Errorf("%v: replica %d has %q, not %q", x, i, values(w, i), before)
			}
		}
	}
}

// P20.7: the journals become durable also if no message was delivered.
func TestSettleSync(t *testing.T) {
	w := received(t)
	if n := w.Settle(); n != 0 {
		t.Errorf("Settle = %d", n)
	}
	want(t, "Crash", w.Crash(1, 0), api.OK)
	has(t, w, "Crash", "a", "a")
}

// P20.7: Settle needs no room in the list, and leaves the messages in it.
func TestSettleList(t *testing.T) {
	w := world(t, 3)
	add(t, w, 0, "a")
	for range api.MaxItems {
		want(t, "Send", w.Send(0, 1), api.OK)
	}
	if n := w.Settle(); n != 3 || w.Messages() != api.MaxItems || !w.Converged() {
		t.Errorf("Settle = %d, %d messages", n, w.Messages())
	}
	has(t, w, "Settle", "a", "a", "a")
	for k := range 3 {
		want(t, "Deliver", w.Deliver(k, false), api.OK)
	}
	has(t, w, "messages after Settle", "a", "a", "a")
	if n := w.Settle(); n != 0 || w.Messages() != api.MaxItems-3 {
		t.Errorf("Settle = %d, %d messages", n, w.Messages())
	}
}

// grow makes a replica have n changes, of which it makes those that it does not
// have yet.
func grow(t *testing.T, w *network.World, i, had, n int) {
	t.Helper()
	large := api.Entry{Attrs: []api.Attr{attr("class", "large")}}
	for k := range wide {
		var l []string
		for v := range api.MaxValues {
			l = append(l, strconv.Itoa(v))
		}
		large.Attrs = append(large.Attrs, attr("a"+strconv.Itoa(k), l...))
	}
	whole := 2 + wide*api.MaxValues
	for n-had >= whole {
		large.Name = "ou=" + strconv.Itoa(i) + "-" + strconv.Itoa(had) + ",ou=x"
		_, e := w.Add(i, large)
		want(t, "Add of a large entry", e, api.OK)
		had += whole
	}
	for ; had < n; had += 2 {
		if n-had == 3 {
			_, e := w.Add(i, person("ou="+strconv.Itoa(i)+"-"+strconv.Itoa(had)+",ou=x"))
			want(t, "Add of a person", e, api.OK)
			return
		}
		add(t, w, i, strconv.Itoa(i)+"-"+strconv.Itoa(had))
	}
}

// P20.2, P20.8: a replica makes as many changes as its log and its journal
// hold, and all of them are durable.
func TestFull(t *testing.T) {
	w := world(t, 2)
	grow(t, w, 0, 0, api.MaxChanges-1)
	_, e := w.Add(0, unit("ou=a,ou=x"))
	want(t, "Add to a full log", e, api.ErrLimit)
	want(t, "Rename", w.Rename(0, "ou=0-0,ou=x", "ou=b,ou=x"), api.OK)
	want(t, "Rename in a full log", w.Rename(0, "ou=b,ou=x", "ou=c,ou=x"), api.ErrLimit)
	want(t, "Modify without changes", w.Modify(0, "ou=b,ou=x", nil), api.OK)
	before := w.Entries(0)
	want(t, "Crash", w.Crash(0, 0), api.OK)
	// A message that is delivered again leaves room in the journal.
	want(t, "Send", w.Send(0, 1), api.OK)
	for range 3 {
		want(t, "Deliver", w.Deliver(0, true), api.OK)
	}
	want(t, "Modify without changes", w.Modify(1, "ou=b,ou=x", nil), api.OK)
	want(t, "Crash", w.Crash(1, 0), api.OK)
	if !w.Converged() {
		t.Error("not converged")
	}
	for i := range 2 {
		if !slices.EqualFunc(w.Entries(i), before, same) {
			t.Errorf("replica %d has %q", i, values(w, i))
		}
	}
}

// P20.4, P20.7: a receiver whose log would be too long.
func TestTooManyChanges(t *testing.T) {
	w := world(t, 3)
	grow(t, w, 0, 0, 2001)
	grow(t, w, 1, 0, api.MaxChanges-2000)
	before, other := values(w, 0), values(w, 1)
	for _, again := range []bool{false, true} {
		want(t, "Send", w.Send(0, 1), api.OK)
		want(t, "Deliver", w.Deliver(0, again), api.ErrLimit)
		if w.Messages() != 1 {
			t.Errorf("%d messages", w.Messages())
		}
		want(t, "Lose", w.Lose(0), api.OK)
	}
	has(t, w, "ErrLimit", before, other, "")
	// Replica 2 receives the changes of replica 0, and no more.
	if n := w.Settle(); n != 1 || w.Converged() {
		t.Errorf("Settle = %d", n)
	}
	has(t, w, "Settle", before, other, before)
	for i := range 3 {
		want(t, "Crash", w.Crash(i, 0), api.OK)
	}
	has(t, w, "Crash", before, other, before)
}

// P20.8: as many changes as there can be in all.
func TestSettleFull(t *testing.T) {
	w := world(t, 3)
	grow(t, w, 0, 0, 2000)
	grow(t, w, 1, 0, api.MaxChanges-2000)
	before := strings.Fields(values(w, 0) + " " + values(w, 1))
	slices.Sort(before)
	if n := w.Settle(); n != 5 || !w.Converged() {
		t.Errorf("Settle = %d", n)
	}
	for i := range 3 {
		want(t, "Crash", w.Crash(i, 0), api.OK)
		after := strings.Fields(values(w, i))
		slices.Sort(after)
		if !slices.Equal(after, before) {
			t.Errorf("replica %d has %q, not %q", i, after, before)
		}
	}
}
