// Package rowkey represents rows as strings, so that they can be keys of maps.
package rowkey

import (
	"strconv"

	"tabellion/api"
)

// Of returns a string that two rows have in common exactly if they are equal.
func Of(r api.Row) string {
	var b []byte
	for _, v := range r {
		b = strconv.AppendInt(b, int64(v.Kind), 10)
		b = append(b, ' ')
		b = strconv.AppendInt(b, int64(v.N), 10)
		b = append(b, ' ')
		b = strconv.AppendInt(b, int64(len(v.S)), 10)
		b = append(b, ' ')
		b = append(b, v.S...)
	}
	return string(b)
}
