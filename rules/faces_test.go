package rules_test

import (
	"palimpsest/api"
	"palimpsest/bind"
	"palimpsest/cat"
	"palimpsest/cost"
	"palimpsest/dev"
	"palimpsest/engine"
	"palimpsest/eval"
	"palimpsest/exec"
	"palimpsest/file"
	"palimpsest/heap"
	"palimpsest/key"
	"palimpsest/lex"
	"palimpsest/lock"
	"palimpsest/node"
	"palimpsest/parse"
	"palimpsest/plan"
	"palimpsest/pool"
	"palimpsest/rec"
	"palimpsest/redo"
	"palimpsest/ring"
	"palimpsest/row"
	"palimpsest/script"
	"palimpsest/slot"
	"palimpsest/space"
	"palimpsest/store"
	"palimpsest/tree"
	"palimpsest/value"
	"palimpsest/wait"
)

// Each call that the chapters list, held against its signature: this file does not compile if one is gone or has changed.

var (
	_ func(n int) (*dev.Dev, api.Errno)           = dev.New
	_ func(*dev.Dev) int                          = (*dev.Dev).Size
	_ func(_ *dev.Dev, i int) ([]byte, api.Errno) = (*dev.Dev).Read
	_ func(_ *dev.Dev, i int, b []byte) api.Errno = (*dev.Dev).Write
	_ func(*dev.Dev) api.Errno                    = (*dev.Dev).Sync
	_ func(*dev.Dev) int                          = (*dev.Dev).Pending
	_ func(*dev.Dev) int                          = (*dev.Dev).Calls
	_ func(_ *dev.Dev, k int)                     = (*dev.Dev).Fuse
	_ func(*dev.Dev) bool                         = (*dev.Dev).Dead
	_ func(_ *dev.Dev, keep []bool)               = (*dev.Dev).Crash
	_ func(*dev.Dev) *dev.Dev                     = (*dev.Dev).Copy
)

var (
	_ func(d *dev.Dev, from, n, start int) (*ring.Ring, api.Errno) = ring.Open
	_ func(*ring.Ring) int                                         = (*ring.Ring).Start
	_ func(*ring.Ring) int                                         = (*ring.Ring).End
	_ func(*ring.Ring) int                                         = (*ring.Ring).Tail
	_ func(*ring.Ring) int                                         = (*ring.Ring).Room
	_ func(_ *ring.Ring, pos, k int) ([]byte, api.Errno)           = (*ring.Ring).Read
	_ func(_ *ring.Ring, b []byte) api.Errno                       = (*ring.Ring).Append
	_ func(*ring.Ring) api.Errno                                   = (*ring.Ring).Flush
	_ func(_ *ring.Ring, pos int) api.Errno                        = (*ring.Ring).Trim
)

var (
	_ func(r api.Rec) []byte                        = rec.Encode
	_ func(b []byte) (r api.Rec, size int, ok bool) = rec.Decode
	_ func(r api.Rec) int                           = rec.Size
	_ func(n int) string                            = rec.Kind
)

var (
	_ func(d *dev.Dev, from, pages int) (*file.File, api.Errno) = file.Open
	_ func(*file.File) int                                      = (*file.File).Pages
	_ func(_ *file.File, p int) ([]byte, api.Errno)             = (*file.File).Read
	_ func(_ *file.File, p int, b []byte) api.Errno             = (*file.File).Write
)

var (
	_ func(f *file.File, frames int, force func(lsn int) api.Errno) (*pool.Pool, api.Errno) = pool.New
	_ func(_ *pool.Pool, n int) ([]byte, api.Errno)                                         = (*pool.Pool).Get
	_ func(_ *pool.Pool, n int, b []byte, lsn int) api.Errno                                = (*pool.Pool).Put
	_ func(_ *pool.Pool, n int) api.Errno                                                   = (*pool.Pool).Evict
	_ func(_ *pool.Pool, n int) bool                                                        = (*pool.Pool).Has
	_ func(*pool.Pool) []api.Dirty                                                          = (*pool.Pool).Dirty
	_ func(*pool.Pool) int                                                                  = (*pool.Pool).Writes
)

var (
	_ func(l []redo.Line) (txns []api.Txn, dirty []api.Dirty, commits int) = redo.Analyze
	_ func(l []redo.Line, dirty []api.Dirty, lsn func(page int) int) []int = redo.Redo
	_ func(l []redo.Line, txns []api.Txn) []api.Rec                        = redo.Undo
	_ func(l []redo.Line, txn int) int                                     = redo.Next
)

var (
	_ func(d *dev.Dev, frames int) (*store.Store, api.Errno)  = store.Open
	_ func(*store.Store) int                                  = (*store.Store).Pages
	_ func(*store.Store) (int, api.Errno)                     = (*store.Store).Begin
	_ func(_ *store.Store, p, off, n int) ([]byte, api.Errno) = (*store.Store).Read
	_ func(_ *store.Store, t, p, off int, b []byte) api.Errno = (*store.Store).Write
	_ func(_ *store.Store, t int) api.Errno                   = (*store.Store).Commit
	_ func(_ *store.Store, t int) api.Errno                   = (*store.Store).Rollback
	_ func(_ *store.Store, t int) (int, api.Errno)            = (*store.Store).Save
	_ func(_ *store.Store, t, mark int) api.Errno             = (*store.Store).Back
	_ func(*store.Store) api.Errno                            = (*store.Store).Checkpoint
	_ func(_ *store.Store, p int) api.Errno                   = (*store.Store).Evict
	_ func(*store.Store) []redo.Line                          = (*store.Store).Log
	_ func(*store.Store) []api.Txn                            = (*store.Store).Txns
	_ func(*store.Store) int                                  = (*store.Store).Commits
	_ func(*store.Store) int                                  = (*store.Store).Room
	_ func(*store.Store) (redone, undone int)                 = (*store.Store).Restart
	_ func(n int) (log, pages int)                            = store.Layout
)

var (
	_ func(pages int) int                            = space.Maps
	_ func(s *store.Store, t int) api.Errno          = space.Format
	_ func(s *store.Store, t int) (int, api.Errno)   = space.Take
	_ func(s *store.Store, t, p int) api.Errno       = space.Give
	_ func(s *store.Store, t int, l []int) api.Errno = space.GiveAll
	_ func(s *store.Store, p int) (bool, api.Errno)  = space.Taken
	_ func(s *store.Store) (int, api.Errno)          = space.Count
)

var (
	_ func() []byte                                                 = slot.New
	_ func(p []byte) bool                                           = slot.Check
	_ func(p []byte, data []byte) (slot int, q []byte, e api.Errno) = slot.Put
	_ func(p []byte, slot int, data []byte) ([]byte, api.Errno)     = slot.Set
	_ func(p []byte, slot int) ([]byte, api.Errno)                  = slot.Del
	_ func(p []byte, slot int) ([]byte, bool)                       = slot.Get
	_ func(p []byte) []int                                          = slot.Slots
	_ func(p []byte) int                                            = slot.Free
	_ func(p []byte) int                                            = slot.Next
	_ func(p []byte, n int) []byte                                  = slot.SetNext
)

var (
	_ func(s *store.Store, t int) (int, api.Errno)                                   = heap.Make
	_ func(s *store.Store, t, head int) api.Errno                                    = heap.Drop
	_ func(s *store.Store, t, head int, data []byte) (api.RID, api.Errno)            = heap.Insert
	_ func(s *store.Store, t, head int, r api.RID, data []byte) (api.RID, api.Errno) = heap.Update
	_ func(s *store.Store, t, head int, r api.RID) api.Errno                         = heap.Delete
	_ func(s *store.Store, r api.RID) ([]byte, api.Errno)                            = heap.Get
	_ func(s *store.Store, head int) ([]api.RID, [][]byte, api.Errno)                = heap.Scan
	_ func(s *store.Store, head int) ([]int, api.Errno)                              = heap.Pages
)

var (
	_ func(v api.Value) []byte                        = key.Encode
	_ func(b []byte) (v api.Value, size int, ok bool) = key.Decode
	_ func(l []api.Value) []byte                      = key.Join
	_ func(b []byte) ([]api.Value, bool)              = key.Split
	_ func(a, b api.Value) int                        = key.Compare
)

var (
	_ func(n node.Node) ([]byte, api.Errno)                         = node.Encode
	_ func(p []byte) (node.Node, bool)                              = node.Decode
	_ func(n node.Node) int                                         = node.Size
	_ func(n node.Node, k []byte) (int, bool)                       = node.Find
	_ func(n node.Node, k, v []byte) node.Node                      = node.Put
	_ func(n node.Node, k []byte) (node.Node, bool)                 = node.Del
	_ func(n node.Node) (left node.Node, k []byte, right node.Node) = node.Split
	_ func(left node.Node, k []byte, right node.Node) node.Node     = node.Merge
)

var (
	_ func(s *store.Store, t int) (int, api.Errno)                                    = tree.Make
	_ func(s *store.Store, t, root int) api.Errno                                     = tree.Drop
	_ func(s *store.Store, root int, k []byte) ([]byte, bool, api.Errno)              = tree.Get
	_ func(s *store.Store, t, root int, k, v []byte) api.Errno                        = tree.Put
	_ func(s *store.Store, t, root int, k []byte) (bool, api.Errno)                   = tree.Del
	_ func(s *store.Store, root int, from, to []byte) ([][]byte, [][]byte, api.Errno) = tree.Range
	_ func(s *store.Store, root int) ([][]node.Node, api.Errno)                       = tree.Levels
)

var (
	_ func() *lock.Table                               = lock.New
	_ func(a, b int) bool                              = lock.Fits
	_ func(a, b int) int                               = lock.Join
	_ func(_ *lock.Table, id int, l []lock.Want) []int = (*lock.Table).Ask
	_ func(_ *lock.Table, id int, l []lock.Want) bool  = (*lock.Table).Take
	_ func(_ *lock.Table, id int)                      = (*lock.Table).Release
	_ func(_ *lock.Table, id int) []lock.Want          = (*lock.Table).Held
	_ func(_ *lock.Table, name string) []int           = (*lock.Table).Holders
)

var (
	_ func(l []wait.Edge, from int) []int       = wait.Cycle
	_ func(l []wait.Edge, from int) (int, bool) = wait.Victim
	_ func(l []wait.Edge) []wait.Edge           = wait.Free
	_ func(l []wait.Edge, id int) []wait.Edge   = wait.Without
)

var (
	_ func(op int, a, b api.Value) (api.Value, api.Errno)     = value.Math
	_ func(op int, a, b api.Value) (api.Value, api.Errno)     = value.Less
	_ func(a, b api.Value) (api.Value, api.Errno)             = value.And
	_ func(a, b api.Value) (api.Value, api.Errno)             = value.Or
	_ func(a api.Value) (api.Value, api.Errno)                = value.Not
	_ func(a api.Value) (api.Value, api.Errno)                = value.Neg
	_ func(name string, l []api.Value) (api.Value, api.Errno) = value.Call
	_ func(v api.Value) string                                = value.Text
	_ func(l []api.Value) (api.Value, api.Errno)              = value.Sum
)

var (
	_ func(l []api.Value) ([]byte, api.Errno)    = row.Encode
	_ func(b []byte) ([]api.Value, bool)         = row.Decode
	_ func(t api.Table, l []api.Value) api.Errno = row.Check
	_ func(a, b []api.Value) int                 = row.Compare
	_ func(l [][]api.Value) [][]api.Value        = row.Sort
	_ func(t api.Table) []byte                   = row.Schema
	_ func(b []byte) (api.Table, bool)           = row.Table
	_ func(l []api.Value) string                 = row.Text
)

var (
	_ func(s string) ([]api.Token, api.Errno, int) = lex.Words
	_ func(s string) bool                          = lex.Reserved
	_ func(s string) bool                          = lex.Name
)

var (
	_ func(s string) (api.Stmt, api.Errno, int) = parse.Statement
	_ func(s string) (api.Expr, api.Errno, int) = parse.Expr
	_ func(e api.Expr) string                   = parse.Text
	_ func(n int) string                        = parse.Kind
)

var (
	_ func(s api.Stmt, tables []api.Table) (api.Stmt, api.Errno)                               = bind.Statement
	_ func(e api.Expr, from []api.Table, names []string, aggs bool) (api.Expr, int, api.Errno) = bind.Expr
	_ func(a, b api.Expr) bool                                                                 = bind.Same
	_ func(s api.Stmt, tables []api.Table) []string                                            = bind.Columns
)

var (
	_ func(e api.Expr, rows [][]api.Value, aggs []api.Value) (api.Value, api.Errno) = eval.Expr
	_ func(e api.Expr, rows [][]api.Value) (bool, api.Errno)                        = eval.Truth
	_ func(l []api.Expr) []api.Expr                                                 = eval.Aggs
	_ func(a api.Expr, group [][][]api.Value) (api.Value, api.Errno)                = eval.Fold
	_ func(e api.Expr) bool                                                         = eval.Safe
)

var (
	_ func(pages, rows int) complex128                              = cost.Of
	_ func(a, b complex128) bool                                    = cost.Less
	_ func(t api.Stat) complex128                                   = cost.Scan
	_ func(t api.Stat, col int) (complex128, int, bool)             = cost.Probe
	_ func(outer complex128, rows int, inner complex128) complex128 = cost.Loop
	_ func(c complex128) string                                     = cost.Text
)

var (
	_ func(s api.Stmt) []api.Pred                                                    = plan.Preds
	_ func(stats []api.Stat, preds []api.Pred) ([]api.Path, complex128, bool)        = plan.Best
	_ func(stats []api.Stat, preds []api.Pred, l []api.Path) (complex128, int, bool) = plan.Cost
	_ func(s api.Stmt, l []api.Path, c complex128) string                            = plan.Text
)

var (
	_ func(s api.Stmt, tables [][][]api.Value) ([][]api.Value, api.Errno)               = exec.Select
	_ func(s api.Stmt, t api.Table, rows [][]api.Value) ([][]api.Value, int, api.Errno) = exec.Insert
	_ func(s api.Stmt, t api.Table, rows [][]api.Value) ([][]api.Value, int, api.Errno) = exec.Update
	_ func(s api.Stmt, t api.Table, rows [][]api.Value) ([][]api.Value, int, api.Errno) = exec.Delete
	_ func(t api.Table, rows [][]api.Value) api.Errno                                   = exec.Unique
	_ func(sizes []int) (int, bool)                                                     = exec.Combos
)

var (
	_ func(s *store.Store) (*cat.Catalog, api.Errno)                                           = cat.Open
	_ func(*cat.Catalog) ([]api.Table, api.Errno)                                              = (*cat.Catalog).Tables
	_ func(_ *cat.Catalog, name string) ([][]api.Value, api.Errno)                             = (*cat.Catalog).Rows
	_ func(_ *cat.Catalog, t int, x api.Table) api.Errno                                       = (*cat.Catalog).Create
	_ func(_ *cat.Catalog, t int, name string) api.Errno                                       = (*cat.Catalog).Drop
	_ func(_ *cat.Catalog, t int, name string, x api.Index) api.Errno                          = (*cat.Catalog).Index
	_ func(_ *cat.Catalog, t int, index string) api.Errno                                      = (*cat.Catalog).DropIndex
	_ func(_ *cat.Catalog, t int, name string, out, in [][]api.Value) api.Errno                = (*cat.Catalog).Change
	_ func(_ *cat.Catalog, name string) (api.Stat, api.Errno)                                  = (*cat.Catalog).Stat
	_ func(_ *cat.Catalog, name string, col int, v api.Value) ([][]api.Value, bool, api.Errno) = (*cat.Catalog).Lookup
	_ func(*cat.Catalog) api.Errno                                                             = (*cat.Catalog).Audit
)

var (
	_ func(d *dev.Dev, frames int) (*engine.Engine, api.Errno)    = engine.Open
	_ func(_ *engine.Engine, session int, text string) api.Answer = (*engine.Engine).Do
	_ func(_ *engine.Engine, session int) bool                    = (*engine.Engine).Busy
	_ func(*engine.Engine) []wait.Edge                            = (*engine.Engine).Waits
	_ func(*engine.Engine) int                                    = (*engine.Engine).Commits
	_ func(*engine.Engine) (string, api.Errno)                    = (*engine.Engine).Dump
	_ func(*engine.Engine) api.Errno                              = (*engine.Engine).Checkpoint
	_ func(_ *engine.Engine, p int) api.Errno                     = (*engine.Engine).Evict
	_ func(*engine.Engine) api.Errno                              = (*engine.Engine).Audit
	_ func(*engine.Engine) *cat.Catalog                           = (*engine.Engine).Catalog
)

var (
	_ func(sectors, frames int) (*script.Desk, api.Errno) = script.New
	_ func(_ *script.Desk, line string) string            = (*script.Desk).Do
	_ func(_ *script.Desk, text string) string            = (*script.Desk).Run
	_ func(a api.Answer) string                           = script.Answer
)
