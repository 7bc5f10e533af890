// Package faces_test holds every layer's package to the calls that the document
// lists, each with its exact signature: what is missing, or another one, does not
// build.
package faces_test

import (
	"jackstay/api"
	"jackstay/assem"
	"jackstay/bits"
	"jackstay/conf"
	"jackstay/crc"
	"jackstay/ctl"
	"jackstay/drv"
	"jackstay/edcan"
	"jackstay/fifo"
	"jackstay/filter"
	"jackstay/flips"
	"jackstay/frag"
	"jackstay/frame"
	"jackstay/ident"
	"jackstay/lcan"
	"jackstay/life"
	"jackstay/mail"
	"jackstay/net"
	"jackstay/node"
	"jackstay/player"
	"jackstay/relcan"
	"jackstay/seq"
	"jackstay/stuff"
	"jackstay/take"
	"jackstay/totcan"
	"jackstay/view"
	"jackstay/wheel"
	"jackstay/wit"
	"jackstay/world"
)

// Layer 1.
var (
	_ func(uint32, int) []bool = bits.Of
	_ func([]bool) uint32      = bits.Number
	_ func([]byte) []bool      = bits.OfBytes
	_ func([]bool) []byte      = bits.Bytes
	_ func([]bool) bool        = bits.Bus
)

// Layer 2.
var (
	_ func(api.Alike, bool) (api.Alike, uint8) = stuff.Next
	_ func(api.Alike) (bool, bool)             = stuff.Owed
	_ func([]bool) []bool                      = stuff.Put
	_ func([]bool) ([]bool, int)               = stuff.Take
)

// Layer 3.
var (
	_ func(uint16, bool) uint16 = crc.Next
	_ func([]bool) uint16       = crc.Sum
	_ func(uint16) []bool       = crc.Bits
)

// Layer 4.
var (
	_ func(api.Frame) bool                = frame.Right
	_ func(api.Frame) int                 = frame.Long
	_ func(api.Frame) ([]bool, api.Errno) = frame.Body
	_ func(api.Frame) ([]bool, api.Errno) = frame.Wire
	_ func([]bool) (int, bool)            = frame.Head
	_ func([]bool) (api.Frame, api.Errno) = frame.Parse
	_ func(api.Frame, api.Frame) bool     = frame.Before
)

// Layer 5.
var (
	_ func([]api.Flip) bool                    = flips.Right
	_ func([]api.Flip) ([]api.Flip, api.Errno) = flips.Make
	_ func([]api.Flip, int) uint32             = flips.Mask
	_ func(bool, uint32, uint8) bool           = flips.Turn
	_ func([]api.Flip, int) int                = flips.Most
	_ func([]api.Flip, uint8) []api.Flip       = flips.Without
)

// Layer 6.
var (
	_ func(api.Conf) bool                         = conf.Right
	_ func(api.Conf) uint8                        = conf.Mode
	_ func(api.Conf, uint8) (api.Conf, api.Errno) = conf.Event
	_ func(api.Conf, bool) api.Conf               = conf.Bit
)

// Layer 7.
var (
	_ func(api.Taking, bool) (api.Taking, uint8) = take.Next
	_ func(api.Taking) bool                      = take.Drive
	_ func(api.Taking) (api.Frame, bool)         = take.Frame
)

// Layer 8.
var (
	_ func(api.Ctl, api.Frame) (api.Ctl, api.Errno) = ctl.Give
	_ func(api.Ctl) (api.Ctl, bool)                 = ctl.Drop
	_ func(api.Ctl) bool                            = ctl.Drive
	_ func(api.Ctl, bool) (api.Ctl, api.Happen)     = ctl.Step
)

// Layer 9.
var (
	_ func(int) (api.Net, api.Errno)                      = net.New
	_ func(api.Net, int, api.Frame) (api.Net, api.Errno)  = net.Give
	_ func(api.Net, int) (api.Net, bool)                  = net.Drop
	_ func(api.Net, int) (api.Net, api.Errno)             = net.Crash
	_ func(api.Net, []int) (api.Net, api.Line, api.Errno) = net.Step
	_ func(api.Net) bool                                  = net.Quiet
)

// Layer 10.
var (
	_ func(api.Frame) uint32                       = mail.Key
	_ func(int) (*mail.Mail, api.Errno)            = mail.New
	_ func(*mail.Mail, api.Frame) (int, api.Errno) = (*mail.Mail).Put
	_ func(*mail.Mail) int                         = (*mail.Mail).Len
	_ func(*mail.Mail) (int, api.Frame, bool)      = (*mail.Mail).Best
	_ func(*mail.Mail) (int, bool)                 = (*mail.Mail).Start
	_ func(*mail.Mail)                             = (*mail.Mail).Lost
	_ func(*mail.Mail) (int, bool)                 = (*mail.Mail).Sent
	_ func(*mail.Mail, int) (bool, api.Errno)      = (*mail.Mail).Abort
	_ func(*mail.Mail, int) bool                   = (*mail.Mail).Waits
)

// Layer 11.
var (
	_ func(api.Filter) bool                          = filter.Right
	_ func([]api.Filter, api.Frame) bool             = filter.Pass
	_ func([]api.Filter, api.Frame) (int, bool)      = filter.First
	_ func(api.Filter, api.Filter) bool              = filter.Covers
	_ func([]uint32, bool) ([]api.Filter, api.Errno) = filter.Only
)

// Layer 12.
var (
	_ func(int) (*fifo.Fifo, api.Errno)  = fifo.New
	_ func(*fifo.Fifo, api.Rx) api.Errno = (*fifo.Fifo).Push
	_ func(*fifo.Fifo) (api.Rx, bool)    = (*fifo.Fifo).Pop
	_ func(*fifo.Fifo) int               = (*fifo.Fifo).Len
	_ func(*fifo.Fifo) bool              = (*fifo.Fifo).Overrun
	_ func(*fifo.Fifo) bool              = (*fifo.Fifo).Clear
)

// Layer 13.
var (
	_ func(int, int) (*wheel.Wheel, api.Errno) = wheel.New
	_ func(*wheel.Wheel) int                   = (*wheel.Wheel).Now
	_ func(*wheel.Wheel) int                   = (*wheel.Wheel).Len
	_ func(*wheel.Wheel, int, int) api.Errno   = (*wheel.Wheel).Set
	_ func(*wheel.Wheel, int) bool             = (*wheel.Wheel).Cancel
	_ func(*wheel.Wheel, int) (int, bool)      = (*wheel.Wheel).Left
	_ func(*wheel.Wheel) []int                 = (*wheel.Wheel).Tick
)

// Layer 14.
var (
	_ func([]api.Filter, int, int) (*drv.Drv, api.Errno) = drv.New
	_ func(*drv.Drv, api.Frame) (int, api.Errno)         = (*drv.Drv).Send
	_ func(*drv.Drv, int) (bool, api.Errno)              = (*drv.Drv).Abort
	_ func(*drv.Drv, int) bool                           = (*drv.Drv).Waits
	_ func(*drv.Drv) (api.Rx, bool)                      = (*drv.Drv).Read
	_ func(*drv.Drv) (int, int)                          = (*drv.Drv).Fill
	_ func(*drv.Drv) bool                                = (*drv.Drv).Overrun
	_ func(*drv.Drv) bool                                = (*drv.Drv).Clear
	_ func(*drv.Drv) bool                                = (*drv.Drv).Drive
	_ func(*drv.Drv, bool) api.Note                      = (*drv.Drv).Step
	_ func(*drv.Drv) api.Ctl                             = (*drv.Drv).Ctl
	_ func(*drv.Drv) int                                 = (*drv.Drv).Now
)

// Layer 15.
var (
	_ func(api.Ident) bool                           = ident.Right
	_ func(api.Ident) (uint32, api.Errno)            = ident.Make
	_ func(uint32) (api.Ident, bool)                 = ident.Read
	_ func(api.Ident, []byte) (api.Frame, api.Errno) = ident.Frame
	_ func(api.Frame) (api.Ident, bool)              = ident.Of
	_ func(api.Ident, api.Ident) bool                = ident.Less
)

// Layer 16.
var (
	_ func(int) (api.Lcan, api.Errno)                      = lcan.New
	_ func(api.Lcan, api.May) (api.Lcan, api.Errno)        = lcan.Step
	_ func(api.Lcan, []api.May) (api.Lcan, int, api.Errno) = lcan.Run
	_ func(api.Lcan, int) []int                            = lcan.Missing
)

// Layer 17.
var (
	_ func(api.Net, api.Move) (api.Net, api.Seen)              = wit.Do
	_ func(api.Net, []api.Move) (api.Net, api.Seen, api.Errno) = wit.Run
)

// Layer 18.
var (
	_ func(uint16, int) uint16           = seq.Add
	_ func(uint16, uint16) int           = seq.Ahead
	_ func(int) (*seq.Seen, api.Errno)   = seq.NewSeen
	_ func(*seq.Seen, uint16) uint8      = (*seq.Seen).Mark
	_ func(*seq.Seen, uint16) bool       = (*seq.Seen).Has
	_ func(*seq.Seen) (uint16, bool)     = (*seq.Seen).Top
	_ func(*seq.Seen)                    = (*seq.Seen).Forget
	_ func(uint16) *seq.Out              = seq.NewOut
	_ func(*seq.Out) (uint16, api.Errno) = (*seq.Out).Next
	_ func(*seq.Out, uint16) bool        = (*seq.Out).Done
	_ func(*seq.Out) int                 = (*seq.Out).Open
)

// Layer 19.
var (
	_ func(uint8, int, int, int) (*edcan.Edcan, api.Errno)      = edcan.New
	_ func(*edcan.Edcan, []byte) (uint16, []api.Act, api.Errno) = (*edcan.Edcan).Send
	_ func(*edcan.Edcan, api.Frame) []api.Act                   = (*edcan.Edcan).Took
	_ func(*edcan.Edcan, api.Frame) []api.Act                   = (*edcan.Edcan).Sent
	_ func(*edcan.Edcan) int                                    = (*edcan.Edcan).Waits
	_ func(*edcan.Edcan) bool                                   = (*edcan.Edcan).Overrun
)

// Layer 20.
var (
	_ func(uint8, int, int, int, int) (*relcan.Relcan, api.Errno) = relcan.New
	_ func(*relcan.Relcan, []byte) (uint16, []api.Act, api.Errno) = (*relcan.Relcan).Send
	_ func(*relcan.Relcan, api.Frame) []api.Act                   = (*relcan.Relcan).Took
	_ func(*relcan.Relcan, api.Frame) []api.Act                   = (*relcan.Relcan).Sent
	_ func(*relcan.Relcan, int) []api.Act                         = (*relcan.Relcan).Timer
	_ func(*relcan.Relcan) int                                    = (*relcan.Relcan).Waits
	_ func(*relcan.Relcan) bool                                   = (*relcan.Relcan).Overrun
)

// Layer 21.
var (
	_ func(uint8, int, int, int) (*totcan.Totcan, api.Errno)      = totcan.New
	_ func(*totcan.Totcan, []byte) (uint16, []api.Act, api.Errno) = (*totcan.Totcan).Send
	_ func(*totcan.Totcan, api.Frame) []api.Act                   = (*totcan.Totcan).Took
	_ func(*totcan.Totcan, api.Frame) []api.Act                   = (*totcan.Totcan).Sent
	_ func(*totcan.Totcan, int) []api.Act                         = (*totcan.Totcan).Timer
	_ func(*totcan.Totcan, uint8) []api.Act                       = (*totcan.Totcan).Gone
	_ func(*totcan.Totcan) int                                    = (*totcan.Totcan).Waits
	_ func(*totcan.Totcan) bool                                   = (*totcan.Totcan).Overrun
)

// Layer 22.
var (
	_ func(uint8, int, int) (*life.Life, api.Errno) = life.New
	_ func(api.Ident) bool                          = life.Sign
	_ func(*life.Life, uint32) []api.Act            = (*life.Life).Watch
	_ func(*life.Life) uint32                       = (*life.Life).Watched
	_ func(*life.Life, api.Frame) []api.Act         = (*life.Life).Heard
	_ func(*life.Life, api.Frame) []api.Act         = (*life.Life).Sent
	_ func(*life.Life, int) []api.Act               = (*life.Life).Timer
)

// Layer 23.
var (
	_ func(uint32) api.View                                    = view.First
	_ func(api.View) bool                                      = view.Right
	_ func(api.View, uint8, uint8) (api.View, bool, api.Errno) = view.Step
	_ func(api.View, uint8) bool                               = view.Has
	_ func(api.View) []uint8                                   = view.Members
	_ func(api.Ident, []byte) (uint8, uint8, bool)             = view.Of
)

// Layer 24.
var (
	_ func(int) int                      = frag.Count
	_ func([]byte) ([][]byte, api.Errno) = frag.Split
	_ func([]byte) (int, bool)           = frag.Head
	_ func(int, int) int                 = frag.Rest
)

// Layer 25.
var (
	_ func(int) (*assem.Assem, api.Errno)                                 = assem.New
	_ func(*assem.Assem, uint8, uint16, []byte) ([]byte, bool, api.Errno) = (*assem.Assem).Push
	_ func(*assem.Assem) int                                              = (*assem.Assem).Open
	_ func(*assem.Assem, uint8) (int, int, bool)                          = (*assem.Assem).Has
	_ func(*assem.Assem, uint8) bool                                      = (*assem.Assem).Drop
)

// Layer 26.
var (
	_ func(uint8, uint32, api.Setup) (*node.Node, api.Errno) = node.New
	_ func(*node.Node) []api.Act                             = (*node.Node).Start
	_ func(*node.Node, []byte) ([]api.Act, api.Errno)        = (*node.Node).Send
	_ func(*node.Node) ([]api.Act, api.Errno)                = (*node.Node).Join
	_ func(*node.Node) ([]api.Act, api.Errno)                = (*node.Node).Leave
	_ func(*node.Node, api.Frame) []api.Act                  = (*node.Node).Took
	_ func(*node.Node, api.Frame) []api.Act                  = (*node.Node).Sent
	_ func(*node.Node, int) []api.Act                        = (*node.Node).Timer
	_ func(*node.Node) (api.Got, bool)                       = (*node.Node).Poll
	_ func(*node.Node) api.View                              = (*node.Node).View
	_ func(*node.Node) int                                   = (*node.Node).Waits
	_ func(*node.Node) bool                                  = (*node.Node).Overrun
)

// Layer 27.
var (
	_ func(int, uint32, api.Setup) (*world.World, api.Errno) = world.New
	_ func(*world.World, api.Deed) api.Errno                 = (*world.World).Do
	_ func(*world.World, int) (api.Got, bool)                = (*world.World).Poll
	_ func(*world.World, int) api.View                       = (*world.World).View
	_ func(*world.World) int                                 = (*world.World).Bits
	_ func(*world.World) bool                                = (*world.World).Quiet
	_ func(*world.World) api.Fair                            = (*world.World).Fair
	_ func(*world.World, int) api.Ctl                        = (*world.World).Ctl
)

// Layer 28.
var (
	_ func(string) (api.Order, api.Errno) = player.Parse
	_ func() (*player.Player, api.Errno)  = player.New
	_ func(*player.Player, string) string = (*player.Player).Do
	_ func(*player.Player, string) string = (*player.Player).Play
	_ func(*player.Player) api.Fair       = (*player.Player).Fair
)
