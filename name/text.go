package name

import "rhizome/api"

// Parse reads a name as text.
func Parse(text string) (string, api.Errno) {
	if text == "." {
		return root, api.OK
	}
	var labels []string
	var b []byte
	for rest := text; rest != ""; {
		if rest[0] == '.' {
			if len(b) == 0 {
				return "", api.ErrForm
			}
			labels, b, rest = append(labels, string(b)), nil, rest[1:]
			continue
		}
		c, size := read(rest)
		if size == 0 {
			return "", api.ErrForm
		}
		b, rest = append(b, c), rest[size:]
	}
	if len(b) > 0 {
		labels = append(labels, string(b))
	}
	if len(labels) == 0 {
		return "", api.ErrForm
	}
	return Join(labels...)
}

// read tells the byte that stands ahead in s, and in how many bytes it is told: 0, if there is none.
func read(s string) (byte, int) {
	if s[0] != '\\' {
		if isPlain(s[0]) {
			return s[0], 1
		}
		return 0, 0
	}
	if len(s) > 1 && (s[1] == '.' || s[1] == '\\') {
		return s[1], 2
	}
	if len(s) < 4 {
		return 0, 0
	}
	n := 0
	for i := 1; i < 4; i++ {
		if s[i] < '0' || s[i] > '9' {
			return 0, 0
		}
		n = 10*n + int(s[i]-'0')
	}
	if n > 255 {
		return 0, 0
	}
	return byte(n), 4
}

// isPlain tells whether a byte stands for itself in a text.
func isPlain(c byte) bool { return c >= 0x21 && c <= 0x7E && c != '.' && c != '\\' }

// Print tells n as text.
func Print(n string) (string, api.Errno) {
	if !May(n) {
		return "", api.ErrName
	}
	if n == root {
		return ".", api.OK
	}
	var b []byte
	for _, s := range Labels(n) {
		for i := range len(s) {
			b = write(b, s[i])
		}
		b = append(b, '.')
	}
	return string(b), api.OK
}

func write(b []byte, c byte) []byte {
	switch {
	case isPlain(c):
		return append(b, c)
	case c == '.' || c == '\\':
		return append(b, '\\', c)
	}
	return append(b, '\\', '0'+c/100, '0'+c/10%10, '0'+c%10)
}
