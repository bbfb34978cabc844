package document

import (
	"trellis/api"
	"trellis/edit"
	"trellis/incr"
)

// version: what a document is at one time.
type version struct {
	text   string
	result api.Result
}

// behind: the version behind an edit of this one, and how much was done.
func (v version) behind(l api.Lang, e api.Edit) (version, api.Stats, api.Errno) {
	text, r, stats, code := incr.Reparse(l, v.text, v.result, e)
	return version{text, r}, stats, code
}

// inverse: the edit that brings this version back behind another edit of it.
func (v version) inverse(e api.Edit) api.Edit { return edit.Invert(v.text, e) }
