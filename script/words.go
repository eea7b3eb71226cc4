package script

import "postroom/api"

// What a word or a tag may tell.
const (
	aCommand = iota
	aTest
	aMatch
	aPart
)

// Words that are no beginning of a command or test, and tags of a size.
const (
	elsifWord = "elsif"
	elseWord  = "else"
	overTag   = "over"
	underTag  = "under"
)

// words, and tags, by what they tell: each stands at the place of its number in package api; other places are empty.
var words = [...][11]string{
	aCommand: {
		api.Require:  "require",
		api.If:       "if",
		api.Keep:     "keep",
		api.Discard:  "discard",
		api.FileInto: "fileinto",
		api.Redirect: "redirect",
		api.Reject:   "reject",
		api.SetFlag:  "setflag",
		api.AddFlag:  "addflag",
		api.Stop:     "stop",
	},
	aTest: {
		api.True:     "true",
		api.False:    "false",
		api.Not:      "not",
		api.AllOf:    "allof",
		api.AnyOf:    "anyof",
		api.Header:   "header",
		api.Addr:     "address",
		api.Envelope: "envelope",
		api.Exists:   "exists",
		api.Size:     "size",
	},
	aMatch: {
		api.Is:       "is",
		api.Contains: "contains",
		api.Matches:  "matches",
	},
	aPart: {
		api.All:    "all",
		api.Local:  "localpart",
		api.Domain: "domain",
	},
}

// numberOf a word or a tag, which tells such a thing; 0, if it tells none.
func numberOf(thing int, word string) int {
	for n, w := range words[thing] {
		if w == word {
			return n
		}
	}
	return 0
}

// isNumberOf tells whether some word tells such a thing with this number.
func isNumberOf(thing, n int) bool {
	return 0 <= n && n < len(words[thing]) && words[thing][n] != ""
}
