package mail_test

import (
	"testing"

	"jackstay/api"
	"jackstay/mail"
	"jackstay/samples"
)

// made is a mail with that much room.
func made(t *testing.T, room int) *mail.Mail {
	t.Helper()
	m, e := mail.New(room)
	if m == nil || e != api.OK {
		t.Fatalf("New(%d) is %v, error %d", room, m, e)
	}
	return m
}

// put puts frames, which have the next numbers then.
func put(t *testing.T, m *mail.Mail, from int, l ...api.Frame) {
	t.Helper()
	for i, f := range l {
		if n, e := m.Put(f); n != from+i || e != api.OK {
			t.Fatalf("Put of %v is %d, error %d, not %d", f, n, e, from+i)
		}
	}
}

// base is a base frame without data.
func base(id uint32) api.Frame { return api.Frame{ID: id} }

// with is a base frame with one byte.
func with(id uint32, b byte) api.Frame { return api.Frame{ID: id, Dlc: 1, Data: []byte{b}} }

// waits holds the frames with these numbers, and no others, to wait.
func waits(t *testing.T, m *mail.Mail, numbers ...int) {
	t.Helper()
	if n := m.Len(); n != len(numbers) {
		t.Fatalf("Len is %d, not %d", n, len(numbers))
	}
	want := map[int]int{}
	for _, n := range numbers {
		want[n]++
	}
	for n := -2; n <= 2*api.MaxMail; n++ {
		if is := m.Waits(n); is != (want[n] > 0) {
			t.Fatalf("%d waits: %v", n, is)
		}
	}
}

// best holds Best to be a frame.
func best(t *testing.T, m *mail.Mail, number int, f api.Frame) {
	t.Helper()
	if n, got, ok := m.Best(); n != number || !samples.Same(got, f) || !ok {
		t.Fatalf("Best is %d, %v, %v, not %d, %v", n, got, ok, number, f)
	}
}

// start holds Start to be a number.
func start(t *testing.T, m *mail.Mail, number int) {
	t.Helper()
	if n, ok := m.Start(); n != number || !ok {
		t.Fatalf("Start is %d, %v, not %d", n, ok, number)
	}
}

// sent holds Sent to be a number.
func sent(t *testing.T, m *mail.Mail, number int) {
	t.Helper()
	if n, ok := m.Sent(); n != number || !ok {
		t.Fatalf("Sent is %d, %v, not %d", n, ok, number)
	}
}

// abort holds Abort to remove a frame, or not.
func abort(t *testing.T, m *mail.Mail, number int, removes bool) {
	t.Helper()
	if gone, e := m.Abort(number); gone != removes || e != api.OK {
		t.Fatalf("Abort(%d) is %v, error %d", number, gone, e)
	}
}

// noneOnWire holds none to be on the wire.
func noneOnWire(t *testing.T, m *mail.Mail) {
	t.Helper()
	if n, ok := m.Sent(); n != 0 || ok {
		t.Fatalf("Sent is %d, %v, though none is on the wire", n, ok)
	}
}

// empty holds a mail to have no frames.
func empty(t *testing.T, m *mail.Mail) {
	t.Helper()
	waits(t, m)
	if n, f, ok := m.Best(); n != 0 || !samples.Same(f, api.Frame{}) || ok {
		t.Fatalf("none waits, but Best is %d, %v, %v", n, f, ok)
	}
	if n, ok := m.Start(); n != 0 || ok {
		t.Fatalf("none waits, but Start is %d, %v", n, ok)
	}
	noneOnWire(t, m)
	for n := -2; n <= 2*api.MaxMail; n++ {
		if gone, e := m.Abort(n); gone || e != api.ErrMail {
			t.Fatalf("none waits, but Abort(%d) is %v, error %d", n, gone, e)
		}
	}
}
