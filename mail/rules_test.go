package mail_test

import (
	"math"
	"math/rand"
	"testing"
	"testing/quick"

	"jackstay/api"
	"jackstay/mail"
	"jackstay/samples"
)

// The rules that hold everywhere, R1 to R7, as far as they touch this layer. It has no
// texts (R6, R7).

// none are mails that are nil, or that New did not return: also a copy of one that has
// frames, of which one is on the wire.
func none(t *testing.T) map[string]*mail.Mail {
	m := made(t, 3)
	put(t, m, 1, base(5), base(4))
	start(t, m, 2)
	abort(t, m, 2, false)
	other := *m
	return map[string]*mail.Mail{"nil": nil, "a new one": new(mail.Mail), "a copy": &other}
}

// R5: what a mail that is none returns.
func TestMailsThatAreNone(t *testing.T) {
	for what, m := range none(t) {
		// More than once, as nothing comes of the calls.
		for range 2 {
			for _, f := range append(samples.Wrong(), samples.Right()...) {
				if n, e := m.Put(f); n != 0 || e != api.ErrNil {
					t.Fatalf("%s: Put of %v is %d, error %d", what, f, n, e)
				}
			}
			if n := m.Len(); n != 0 {
				t.Errorf("%s: Len is %d", what, n)
			}
			if n, f, ok := m.Best(); n != 0 || !samples.Same(f, api.Frame{}) || ok {
				t.Errorf("%s: Best is %d, %v, %v", what, n, f, ok)
			}
			if n, ok := m.Start(); n != 0 || ok {
				t.Errorf("%s: Start is %d, %v", what, n, ok)
			}
			m.Lost()
			if n, ok := m.Sent(); n != 0 || ok {
				t.Errorf("%s: Sent is %d, %v", what, n, ok)
			}
			for _, n := range []int{math.MinInt, -1, 0, 1, 2, 3, math.MaxInt} {
				if gone, e := m.Abort(n); gone || e != api.ErrNil {
					t.Errorf("%s: Abort(%d) is %v, error %d", what, n, gone, e)
				}
				if m.Waits(n) {
					t.Errorf("%s: %d waits", what, n)
				}
			}
		}
	}
}

// R5: a copy leaves the mail alone that it was made of.
func TestCopiesLeaveMailsAlone(t *testing.T) {
	m := made(t, 3)
	put(t, m, 1, base(5), with(4, 1))
	start(t, m, 2)
	other := *m
	other.Put(base(1))
	other.Abort(1)
	other.Abort(2)
	other.Lost()
	other.Start()
	other.Sent()
	waits(t, m, 1, 2)
	best(t, m, 2, with(4, 1))
	m.Lost()
	waits(t, m, 1, 2)
	put(t, m, 3, base(3))
}

// R1: every call returns, whatever its arguments are.
func TestEveryCallReturns(t *testing.T) {
	m := made(t, 5)
	one := func(f api.Frame, n, room int) bool {
		mail.Key(f)
		mail.New(room)
		m.Put(f)
		f.ID %= api.MaxExt + 1
		f.Data = f.Data[:min(len(f.Data), 8)]
		f.Dlc = uint8(len(f.Data))
		m.Put(f)
		m.Start()
		m.Abort(n)
		m.Waits(n)
		m.Best()
		if n%2 == 0 {
			m.Lost()
		}
		m.Sent()
		return true
	}
	if e := quick.Check(one, &quick.Config{MaxCount: 2000, Rand: rand.New(rand.NewSource(10))}); e != nil {
		t.Error(e)
	}
	for _, f := range samples.Wrong() {
		mail.Key(f)
	}
}

// R2: errors, and a false, leave no trace: what comes then is as if they had not been.
func TestErrorsChangeNothing(t *testing.T) {
	m := made(t, 3)
	fail := func() {
		t.Helper()
		full := m.Len() == 3
		for _, f := range samples.Wrong() {
			if n, e := m.Put(f); n != 0 || e != api.ErrFrame {
				t.Fatalf("Put of %v is %d, error %d", f, n, e)
			}
		}
		if full {
			if n, e := m.Put(base(0)); n != 0 || e != api.ErrFull {
				t.Fatalf("Put into a full mail is %d, error %d", n, e)
			}
		}
		for _, n := range []int{-1, 0, 99} {
			if gone, e := m.Abort(n); gone || e != api.ErrMail {
				t.Fatalf("Abort(%d) is %v, error %d", n, gone, e)
			}
		}
		mail.New(0)
	}
	fail()
	noneOnWire(t, m)
	if n, ok := m.Start(); n != 0 || ok {
		t.Fatalf("Start is %d, %v, though none waits", n, ok)
	}
	put(t, m, 1, base(5))
	fail()
	noneOnWire(t, m)
	put(t, m, 2, base(3))
	fail()
	start(t, m, 2)
	fail()
	put(t, m, 3, base(4))
	fail()
	waits(t, m, 1, 2, 3)
	best(t, m, 2, base(3))
	m.Lost()
	fail()
	waits(t, m, 1, 2, 3)
	start(t, m, 2)
	abort(t, m, 2, false)
	fail()
	m.Lost()
	fail()
	waits(t, m, 1, 3)
	put(t, m, 4, base(2))
	fail()
	start(t, m, 4)
	fail()
	sent(t, m, 4)
	fail()
	waits(t, m, 1, 3)
	put(t, m, 5, base(9))
}

// R3: Put leaves its frame as it is, also behind the end of its data, and with errors.
func TestPutLeavesFramesAsTheyAre(t *testing.T) {
	for _, f := range append(samples.Right(), samples.Wrong()...) {
		f = samples.Roomy(f)
		whole := samples.Whole(f).Data
		want := string(whole)
		m := made(t, 1)
		m.Put(f)
		m.Put(f)
		_, got, _ := m.Best()
		samples.Spoil(got)
		m.Start()
		m.Sent()
		if string(whole) != want {
			t.Fatalf("the data of %v, and what is behind, have become %q", f, whole)
		}
	}
}

// P10.2, R3: what is written over the data behind Put, or into what Best returned,
// changes no frame that waits.
func TestDataHaveMemoryOfTheirOwn(t *testing.T) {
	for _, want := range samples.Right() {
		m := made(t, 3)
		f := samples.Roomy(want)
		put(t, m, 1, f, f)
		samples.Spoil(f)
		best(t, m, 1, want)
		for round := range 4 {
			if round == 2 {
				start(t, m, 1)
			}
			_, got, _ := m.Best()
			_, other, _ := m.Best()
			samples.Spoil(got)
			if !samples.Same(other, want) {
				t.Fatalf("what Best returned of %v changes with what it returned once more: %v", want, other)
			}
			samples.Spoil(other)
			best(t, m, 1, want)
		}
		// What was returned stays as it was, whatever becomes of the mail.
		_, kept, _ := m.Best()
		sent(t, m, 1)
		best(t, m, 2, want)
		put(t, m, 3, samples.Made(0, false, false, 8))
		abort(t, m, 2, true)
		put(t, m, 4, samples.Made(0, false, false, 8))
		if !samples.Same(kept, want) {
			t.Fatalf("what Best returned of %v has become %v", want, kept)
		}
	}
}

// R3: with one piece of data for many frames each has its own.
func TestFramesWithTheSameData(t *testing.T) {
	m := made(t, 8)
	data := []byte{0}
	for i := range 8 {
		data[0] = byte(i)
		put(t, m, i+1, api.Frame{ID: 5, Dlc: 1, Data: data})
	}
	for i := range 8 {
		best(t, m, i+1, with(5, byte(i)))
		start(t, m, i+1)
		sent(t, m, i+1)
	}
}

// R4: what a mail returns hangs on its own history alone, not on other mails.
func TestMailsAreApart(t *testing.T) {
	all := samples.Some()
	a, b, c := made(t, 20), made(t, 2), made(t, 20)
	for i, f := range all[:20] {
		put(t, a, i+1, f)
		b.Put(all[i+1])
		b.Start()
		if i%3 == 0 {
			b.Abort(i)
			b.Sent()
		}
	}
	put(t, c, 1, all[:20]...)
	for range 20 {
		b.Lost()
		b.Put(base(0))
		n, f, _ := c.Best()
		best(t, a, n, f)
		start(t, a, n)
		b.Start()
		start(t, c, n)
		sent(t, a, n)
		sent(t, c, n)
	}
	empty(t, a)
	empty(t, c)
}

// R6: no data are as good as nil.
func TestEmptyIsNil(t *testing.T) {
	m := made(t, 4)
	put(t, m, 1, api.Frame{ID: 5, Data: []byte{}}, base(5), api.Frame{ID: 5, Data: make([]byte, 0, 8)})
	put(t, m, 4, api.Frame{ID: 5, Remote: true, Dlc: 4, Data: []byte{}})
	for n := 1; n <= 4; n++ {
		want := base(5)
		if n == 4 {
			want = api.Frame{ID: 5, Remote: true, Dlc: 4}
		}
		best(t, m, n, want)
		start(t, m, n)
		sent(t, m, n)
	}
	if mail.Key(api.Frame{ID: 5, Data: []byte{}}) != mail.Key(base(5)) {
		t.Error("with no data a key is another one")
	}
}
