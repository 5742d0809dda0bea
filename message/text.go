package message

import (
	"strconv"
	"strings"

	"compositor/api"
)

const hexDigits = "0123456789abcdef"

// Format returns m as text: its object, its opcode, and its arguments in parentheses.
func Format(m api.Message) string {
	args := make([]string, len(m.Args))
	for i, a := range m.Args {
		args[i] = formatArg(a)
	}
	object := strconv.FormatUint(uint64(m.Object), 10)
	return join("", object, ".", strconv.Itoa(m.Opcode), "(", join(", ", args...), ")")
}

// join returns the texts with the separator between them.
func join(separator string, texts ...string) string {
	return strings.Join(texts, separator)
}

func formatArg(a api.Arg) string {
	n := strconv.FormatInt(a.N, 10)
	switch a.Kind {
	case api.ArgInt:
		return n
	case api.ArgUint:
		return join("", n, "u")
	case api.ArgFixed:
		return join("", n, "f")
	case api.ArgObject:
		return join("", "#", n)
	case api.ArgNewID:
		return join("", "+", n)
	case api.ArgString:
		return join("", `"`, escape(a.S), `"`)
	case api.ArgArray:
		return join("", "[", hex(a.B), "]")
	}
	return "?"
}

// escape writes the bytes of s that are no printable characters of ASCII, the double quote and the backslash as \x and two digits.
func escape(s string) string {
	var out []byte
	for i := range len(s) {
		x := s[i]
		if x < ' ' || x > '~' || x == '"' || x == '\\' {
			out = append(out, '\\', 'x')
			out = appendHex(out, x)
		} else {
			out = append(out, x)
		}
	}
	return string(out)
}

func hex(b []byte) string {
	out := make([]byte, 0, 2*len(b))
	for _, x := range b {
		out = appendHex(out, x)
	}
	return string(out)
}

func appendHex(out []byte, x byte) []byte {
	return append(out, hexDigits[x>>4], hexDigits[x&15])
}
