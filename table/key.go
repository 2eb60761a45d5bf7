package table

import (
	"strconv"

	"concord/api"
)

// keyOf returns a string that two values have in common exactly if they are equal. (A value that is not right has no text that would do.)
func keyOf(v api.Value) string {
	return string(appendKey(nil, v))
}

// appendKey appends all fields of v, with the lengths of strings and lists in front of these, so that it can be told where each of them ends.
func appendKey(key []byte, v api.Value) []byte {
	key = appendInts(key, v.Kind, v.D.N, v.D.Scale, v.N, len(v.Cols), len(v.Rows))
	key = appendString(key, v.S)
	for _, name := range v.Cols {
		key = appendString(key, name)
	}
	for _, row := range v.Rows {
		key = appendInts(key, len(row))
		for _, cell := range row {
			key = appendKey(key, cell)
		}
	}
	return key
}

// appendString appends s and its length.
func appendString(key []byte, s string) []byte {
	return append(appendInts(key, len(s)), s...)
}

// appendInts appends ints with a blank after each one.
func appendInts(key []byte, l ...int) []byte {
	for _, n := range l {
		key = append(strconv.AppendInt(key, int64(n), 10), ' ')
	}
	return key
}
