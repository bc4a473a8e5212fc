/-
  Two hashes compared, as one step of a walk: laid open, the comparison of two arrays costs minutes.
-/
import Derived.Test.YtllabnhgiojmmaaDoorShaEqB
namespace Go.Proofs.YtllabnhgiojmmaaDoor
open Go.RowKit
set_option linter.unusedVariables false
set_option maxRecDepth 100000

def eqAt (x y : Value) : Sem Value := binOp .eql 24 x y
theorem eq_at (x y : Value) : binOp .eql 24 x y = eqAt x y := rfl
def neqAt (x y : Value) : Sem Value := binOp .neq 24 x y
theorem neq_at (x y : Value) : binOp .neq 24 x y = neqAt x y := rfl
theorem eqAt_hash (l m : List Int) (hl : l.length = 32) (hm : m.length = 32) (bl : bytes l) (bm : bytes m) (w : World) : (eqAt (.agg (nums .u8 l)) (.agg (nums .u8 m))).run Tryd.prog w = .ok (.bool (decide (l = m))) w := eql_hash l m hl hm bl bm w
theorem neqAt_hash (l m : List Int) (hl : l.length = 32) (hm : m.length = 32) (bl : bytes l) (bm : bytes m) (w : World) : (neqAt (.agg (nums .u8 l)) (.agg (nums .u8 m))).run Tryd.prog w = .ok (.bool (!decide (l = m))) w := neq_hash l m hl hm bl bm w
end Go.Proofs.YtllabnhgiojmmaaDoor
