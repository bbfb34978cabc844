import Derived.Test.YtbkhhegmmkcbbaaDoorTgf
import Derived.Lib.AppendStr
namespace Go.Proofs.YtbkhhegmmkcbbaaDoor
open Go.RowKit Go.Maps

def nC (x : Nd) : Value := .agg #[.string x.nm, .bool x.nd, .string x.fd, .int .i64 x.fr, .int .i64 x.tt, .int .i64 x.kd, .int .i64 x.lf]
end Go.Proofs.YtbkhhegmmkcbbaaDoor
