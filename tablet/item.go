package tablet

import (
	"bytes"

	"bulwark/api"
	"bulwark/cell"
)

// The first byte of an item's value.
const (
	ofValue = 0
	ofGone  = 1
)

func Item(c api.Cell) api.Item {
	key, _ := cell.Bytes(c.K)
	if c.Gone {
		return api.Item{Key: key, Value: []byte{ofGone}}
	}
	return api.Item{Key: key, Value: append([]byte{ofValue}, c.Value...)}
}

func Cell(x api.Item) (api.Cell, api.Kind) {
	k, wrong := cell.Read(x.Key)
	if wrong != api.OK {
		return api.Cell{}, wrong
	}
	switch {
	case bytes.Equal(x.Value, []byte{ofGone}):
		return api.Cell{K: k, Gone: true}, api.OK
	case isValue(x.Value):
		return api.Cell{K: k, Value: bytes.Clone(x.Value[1:])}, api.OK
	}
	return api.Cell{}, api.BadForm
}

// isValue: of a cell that is not gone. A value that is longer than any cell's may be is no cell's.
func isValue(b []byte) bool {
	return len(b) > 0 && b[0] == ofValue && len(b)-1 <= api.MaxValue
}
