package rules

import (
	"trellis/api"
	"trellis/choose"
	"trellis/complete"
	"trellis/defn"
	"trellis/document"
	"trellis/edit"
	"trellis/first"
	"trellis/grammar"
	"trellis/incr"
	"trellis/inject"
	"trellis/items"
	"trellis/json"
	"trellis/load"
	"trellis/mend"
	"trellis/nfa"
	"trellis/outline"
	"trellis/paint"
	"trellis/parse"
	"trellis/place"
	"trellis/query"
	"trellis/ranges"
	"trellis/regex"
	"trellis/reuse"
	"trellis/rope"
	"trellis/rpc"
	"trellis/scan"
	"trellis/server"
	"trellis/session"
	"trellis/state"
	"trellis/store"
	"trellis/table"
	"trellis/tree"
	"trellis/trellis"
	"trellis/types"
	"trellis/words"
)

// The calls that the chapters list, by layer, with their signatures: what keeps to them compiles.
var (
	_ func(string) *rope.Rope                                                                 = rope.New
	_ func(*rope.Rope) int                                                                    = (*rope.Rope).Len
	_ func(*rope.Rope) string                                                                 = (*rope.Rope).String
	_ func(*rope.Rope, int, int) string                                                       = (*rope.Rope).Slice
	_ func(*rope.Rope, int) (byte, bool)                                                      = (*rope.Rope).Byte
	_ func(*rope.Rope, api.Edit) (*rope.Rope, api.Errno)                                      = (*rope.Rope).Splice
	_ func(*rope.Rope) int                                                                    = (*rope.Rope).Depth
	_ func(*rope.Rope, int) *rope.Cursor                                                      = (*rope.Rope).Cursor
	_ func(*rope.Cursor) (byte, bool)                                                         = (*rope.Cursor).Next
	_ func(*rope.Cursor) bool                                                                 = (*rope.Cursor).Back
	_ func(*rope.Cursor) int                                                                  = (*rope.Cursor).At
	_ func(*rope.Cursor) int                                                                  = (*rope.Cursor).Far
	_ func(string) *place.Index                                                               = place.New
	_ func(*place.Index) int                                                                  = (*place.Index).Rows
	_ func(*place.Index, int) (api.Range, bool)                                               = (*place.Index).Row
	_ func(*place.Index, int) api.Pos                                                         = (*place.Index).Pos
	_ func(*place.Index, api.Pos) int                                                         = (*place.Index).At
	_ func(*place.Index, int) api.Pos                                                         = (*place.Index).Wide
	_ func(*place.Index, api.Pos) int                                                         = (*place.Index).AtWide
	_ func(*place.Index, api.Edit) *place.Index                                               = (*place.Index).Edit
	_ func(int, api.Edit) api.Edit                                                            = edit.Clamp
	_ func(string, api.Edit) (string, api.Errno)                                              = edit.Apply
	_ func(string, []api.Edit) (string, api.Errno, int)                                       = edit.All
	_ func(string, api.Edit) api.Edit                                                         = edit.Invert
	_ func(int, api.Edit, int) (int, bool)                                                    = edit.Map
	_ func(int, api.Edit, int) (int, bool)                                                    = edit.Back
	_ func(string, string) api.Edit                                                           = edit.Between
	_ func(string, api.Edit, api.Edit) api.Edit                                               = edit.Cover
	_ func(string) ([]api.ReNode, api.Errno, int)                                             = regex.Parse
	_ func([]api.ReNode) (string, api.Errno)                                                  = regex.Print
	_ func([]api.ReNode) bool                                                                 = regex.Shaped
	_ func([]api.ReNode) bool                                                                 = regex.Nullable
	_ func([]api.ReNode, string) bool                                                         = regex.Matches
	_ func([]api.ReNode, string) (bool, bool)                                                 = regex.Begins
	_ func([]api.ReNode) api.Nfa                                                              = nfa.Compile
	_ func(api.Nfa, string) bool                                                              = nfa.Accepts
	_ func(api.Nfa, string, int) (int, int)                                                   = nfa.Run
	_ func() api.State                                                                        = state.Start
	_ func(api.State) bool                                                                    = state.Shaped
	_ func(api.State, api.State) bool                                                         = state.Same
	_ func(api.State) (string, api.Errno)                                                     = state.Encode
	_ func(string) (api.State, api.Errno)                                                     = state.Decode
	_ func(api.State, api.Test, bool) bool                                                    = state.Holds
	_ func(api.State, api.Act, string) (api.State, api.Errno)                                 = state.Do
	_ func(api.State, []api.Act, string) (api.State, api.Errno)                               = state.All
	_ func(api.Rule, api.State, bool, api.Terms) bool                                         = scan.Applies
	_ func(api.Rule, api.State, string, int) (int, int)                                       = scan.Match
	_ func([]api.Rule, api.State, string, int, api.Terms) api.Step                            = scan.Next
	_ func([]api.Rule, string, api.Terms, int) []api.Step                                     = scan.Lex
	_ func(string) ([]api.Word, api.Errno, int)                                               = words.Cut
	_ func(api.Word) string                                                                   = words.Spell
	_ func([]api.Word) string                                                                 = words.Join
	_ func(string) (api.Defn, api.Spots, api.Errno, int)                                      = defn.Parse
	_ func(api.Defn) (string, api.Errno)                                                      = defn.Print
	_ func([]api.GNode) (string, api.Errno)                                                   = defn.Expr
	_ func(api.Defn) bool                                                                     = defn.Shaped
	_ func(api.Defn) api.Flaw                                                                 = grammar.Check
	_ func(api.Defn) (api.Gram, []api.Rule, api.Flaw)                                         = grammar.Build
	_ func(api.Spots, api.Flaw) int                                                           = grammar.Place
	_ func(api.Gram) []bool                                                                   = first.Nullable
	_ func(api.Gram) []api.Terms                                                              = first.First
	_ func(api.Gram, []api.Ref, api.Terms) api.Terms                                          = first.Of
	_ func(api.Gram, []api.Item) []api.Item                                                   = items.Closure
	_ func(api.Gram, []api.Item, int) []api.Item                                              = items.Goto
	_ func(api.Gram) ([][]api.Item, [][]int, api.Errno)                                       = items.Sets
	_ func(api.Gram) (api.Table, api.Errno, int, int)                                         = table.Build
	_ func(api.Table, int) api.Terms                                                          = table.Valid
	_ func(api.Table) string                                                                  = table.Encode
	_ func(string) (api.Table, error)                                                         = table.Decode
	_ func(string) (api.Lang, api.Fault)                                                      = load.Load
	_ func(api.Lang, int, int, int, int) []api.Node                                           = tree.Token
	_ func(api.Lang, int, [][]api.Node, []int) []api.Node                                     = tree.Reduce
	_ func(api.Lang, int, []api.Node) []api.Node                                              = tree.Show
	_ func([]api.Node) int                                                                    = tree.Roots
	_ func([]api.Node, int) int                                                               = tree.Size
	_ func([]api.Node, int) []int                                                             = tree.Kids
	_ func([]api.Node, int) int                                                               = tree.Parent
	_ func([]api.Node, int) []int                                                             = tree.Path
	_ func([]api.Node) string                                                                 = tree.Text
	_ func([]api.Node) *tree.Cursor                                                           = tree.Walk
	_ func(*tree.Cursor) int                                                                  = (*tree.Cursor).Place
	_ func(*tree.Cursor) bool                                                                 = (*tree.Cursor).Down
	_ func(*tree.Cursor) bool                                                                 = (*tree.Cursor).Next
	_ func(*tree.Cursor) bool                                                                 = (*tree.Cursor).Up
	_ func(api.Lang, string) api.Result                                                       = parse.Parse
	_ func(api.Lang, string, parse.Source) (api.Result, api.Stats)                            = parse.With
	_ func(api.Lang, []api.Leaf) ([]api.Node, api.Terms, bool)                                = parse.Follow
	_ func(int, api.Result, api.Edit) *reuse.Old                                              = reuse.New
	_ func(*reuse.Old) int                                                                    = (*reuse.Old).Standing
	_ func(*reuse.Old, int, string, api.Terms) (api.Leaf, bool)                               = (*reuse.Old).Find
	_ func(api.Lang, string, api.Result, api.Edit) (string, api.Result, api.Stats, api.Errno) = incr.Reparse
	_ func(api.Result, int) []string                                                          = ranges.Chain
	_ func(int, api.Result, api.Edit, api.Result) []api.Range                                 = ranges.Changed
	_ func(string) (api.Query, api.Errno, int)                                                = query.Parse
	_ func(api.Query) (string, api.Errno)                                                     = query.Print
	_ func(api.Query) bool                                                                    = query.Shaped
	_ func(api.Query, []api.Node, string) []api.Found                                         = query.All
	_ func(api.Lang, []api.Node, int) string                                                  = paint.Class
	_ func(api.Lang, []api.Node) []api.Span                                                   = paint.Spans
	_ func(api.Lang, []api.Node, string) []api.Fold                                           = outline.Folds
	_ func(api.Lang, []api.Node, string) []api.Symbol                                         = outline.Symbols
	_ func(api.Lang, string) (*document.Document, api.Errno)                                  = document.Open
	_ func(*document.Document, api.Edit) (api.Stats, api.Errno)                               = (*document.Document).Edit
	_ func(*document.Document) api.Errno                                                      = (*document.Document).Undo
	_ func(*document.Document) api.Errno                                                      = (*document.Document).Redo
	_ func(*document.Document) int                                                            = (*document.Document).Version
	_ func(*document.Document) string                                                         = (*document.Document).Text
	_ func(*document.Document) api.Result                                                     = (*document.Document).Result
	_ func(*document.Document) []api.Range                                                    = (*document.Document).Changed
	_ func(*document.Document, int) (string, api.Errno)                                       = (*document.Document).Past
	_ func([]api.Lang, string, string) ([]api.Layer, api.Errno)                               = inject.Parse
	_ func([]api.Lang, []api.Layer) []api.Span                                                = inject.Spans
	_ func(string) ([]api.JNode, api.Errno, int)                                              = json.Parse
	_ func([]api.JNode) (string, api.Errno)                                                   = json.Print
	_ func([]api.JNode) bool                                                                  = json.Shaped
	_ func([]api.JNode, int, string) int                                                      = json.Member
	_ func([]api.JNode, int) (int, bool)                                                      = json.Int
	_ func(string) ([]byte, api.Errno)                                                        = rpc.Put
	_ func([]byte) (string, int, api.Errno)                                                   = rpc.Take
	_ func() *rpc.Buffer                                                                      = rpc.New
	_ func(*rpc.Buffer, []byte) ([]string, api.Errno)                                         = (*rpc.Buffer).Feed
	_ func(*rpc.Buffer) int                                                                   = (*rpc.Buffer).Waiting
	_ func([]api.Lang) *session.Session                                                       = session.New
	_ func(*session.Session, string) []string                                                 = (*session.Session).Handle
	_ func(*session.Session) []string                                                         = (*session.Session).Open
	_ func([]api.Lang) *server.Server                                                         = server.New
	_ func(*server.Server, int, []byte) []byte                                                = (*server.Server).Feed
	_ func(*server.Server, int)                                                               = (*server.Server).Hang
	_ func(*server.Server) []int                                                              = (*server.Server).Conns
	_ func(api.Lang, []string) []api.Result                                                   = server.Batch
	_ func(api.Lang, api.Result) string                                                       = trellis.Show
	_ func(string, string, string) string                                                     = trellis.Run
	_ func(api.Lang, string) api.Mended                                                       = mend.Parse
	_ func(api.Lang, []int) ([]int, bool)                                                     = mend.Finish
	_ func(api.Mended) []api.Range                                                            = mend.Odd
	_ func(api.Lang) []api.Shape                                                              = types.Of
	_ func([]api.Shape, []api.Node) bool                                                      = types.Fits
	_ func([]api.Shape) string                                                                = types.Text
	_ func([]api.Node, api.Range) int                                                         = choose.Cover
	_ func([]api.Node, api.Range) api.Range                                                   = choose.Grow
	_ func([]api.Node, api.Range) []api.Range                                                 = choose.Steps
	_ func([]api.Node, int, int) int                                                          = choose.Beside
	_ func([]api.Node, int) int                                                               = choose.Pair
	_ func(string, string, api.Result) string                                                 = store.Encode
	_ func(string, string, string) (api.Result, error)                                        = store.Decode
	_ func(string) uint64                                                                     = store.Sum
	_ func(api.Lang, string, int) ([]api.Candidate, api.Errno)                                = complete.At
	_ func(api.Lang, string, int) (int, bool, api.Errno)                                      = complete.Width
)

// What parse.With takes: whoever has Find is a source.
var _ parse.Source = interface {
	Find(int, string, api.Terms) (api.Leaf, bool)
}(nil)
