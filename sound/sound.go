// Package sound has names, ratios and samples, energies and levels, seals and packets. See shared/doc/01-sound.md.
package sound

// Limits of days, factors, lists of energies, pieces, packets and counters.
const (
	Day        = 86400
	Whole      = 1000
	MaxCells   = 1024
	MaxPiece   = 18
	Size       = 32
	Mark       = 93
	MaxPackets = 1024
	MaxCounter = 65535
	None       = -1
)

// Heard is an energy at a tick of a day.
type Heard struct {
	Tick   int
	Energy int
}

// Packet is a piece of bytes, with its station, its kind and its counter.
type Packet struct {
	Station int
	Kind    int
	Counter int
	Length  int
	Piece   [MaxPiece]byte
}
