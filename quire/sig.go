package quire

import (
	"strconv"

	"duodecimo/api"
	"duodecimo/check"
)

// letters are those of the lettered signatures, in their order.
const letters = "ABCDEFGHIKLMNOPQRSTVXYZ"

// How signatures without a letter of the alphabet are written.
const (
	piText  = "pi"
	chiText = "chi"
)

// isSig reports whether Round and Letter are those of a signature.
func isSig(s api.QuSig) bool {
	return check.Within(1, api.MaxQuRounds, s.Round) && check.Within(0, api.QuChi, s.Letter)
}

// lettered reports whether a signature has a letter of the alphabet.
func lettered(s api.QuSig) bool { return s.Letter < api.QuLetters }

// behind reports whether a lettered signature comes behind another one.
func behind(s, other api.QuSig) bool {
	if s.Round == other.Round {
		return s.Letter > other.Letter
	}
	return s.Round > other.Round
}

// following returns what comes behind a lettered signature; behind the last one this is no signature.
func following(s api.QuSig) api.QuSig {
	if s.Letter+1 < api.QuLetters {
		return api.QuSig{Round: s.Round, Letter: s.Letter + 1}
	}
	return api.QuSig{Round: s.Round + 1}
}

// sigText returns how a signature is written.
func sigText(s api.QuSig) string {
	text := letterText(s.Letter)
	if s.Round > 1 {
		text = strconv.Itoa(s.Round) + text
	}
	return text
}

// letterText returns how the letter of a signature is written.
func letterText(letter int) string {
	switch letter {
	case api.QuPi:
		return piText
	case api.QuChi:
		return chiText
	}
	return letters[letter : letter+1]
}
