package faces_test

import (
	"reflect"
	"testing"

	"jackstay/api"
	"jackstay/assem"
	"jackstay/drv"
	"jackstay/edcan"
	"jackstay/fifo"
	"jackstay/life"
	"jackstay/mail"
	"jackstay/node"
	"jackstay/player"
	"jackstay/relcan"
	"jackstay/seq"
	"jackstay/totcan"
	"jackstay/wheel"
	"jackstay/world"
)

// none are objects of all layers that are nil, or not made by their packages.
func none() []any {
	return []any{
		(*mail.Mail)(nil), new(mail.Mail),
		(*fifo.Fifo)(nil), new(fifo.Fifo),
		(*wheel.Wheel)(nil), new(wheel.Wheel),
		(*drv.Drv)(nil), new(drv.Drv),
		(*seq.Seen)(nil), new(seq.Seen),
		(*seq.Out)(nil), new(seq.Out),
		(*edcan.Edcan)(nil), new(edcan.Edcan),
		(*relcan.Relcan)(nil), new(relcan.Relcan),
		(*totcan.Totcan)(nil), new(totcan.Totcan),
		(*life.Life)(nil), new(life.Life),
		(*assem.Assem)(nil), new(assem.Assem),
		(*node.Node)(nil), new(node.Node),
		(*world.World)(nil), new(world.World),
		(*player.Player)(nil), new(player.Player),
	}
}

// said reports whether a chapter says what the method returns for such an object.
func said(method string) bool {
	switch method {
	case "*drv.Drv.Drive", "*seq.Seen.Mark", "*player.Player.Do", "*player.Player.Play":
		return true
	}
	return false
}

// R1, R5: the methods of such objects return, and their results are zero; an
// Errno is ErrNil. (It is OK as long as the layer is not built.)
func TestObjectsThatAreNone(t *testing.T) {
	for _, object := range none() {
		v := reflect.ValueOf(object)
		for i := range v.NumMethod() {
			name := v.Type().String() + "." + v.Type().Method(i).Name
			results := call(t, name, v.Method(i))
			for k, result := range results {
				if result.Interface() == api.ErrNil || said(name) {
					continue
				}
				if !result.IsZero() {
					t.Errorf("result %d of %s, nil %v, is %v", k, name, v.IsNil(), result)
				}
			}
		}
	}
}

// call calls f with zero arguments; a panic is the test's failure.
func call(t *testing.T, name string, f reflect.Value) (results []reflect.Value) {
	defer func() {
		if r := recover(); r != nil {
			t.Errorf("%s panics: %v", name, r)
		}
	}()
	var zeros []reflect.Value
	for i := range f.Type().NumIn() {
		zeros = append(zeros, reflect.Zero(f.Type().In(i)))
	}
	return f.Call(zeros)
}
