/- The exact law on LayLine. -/
import Derived.Test.YtjdbkpckhgncbaaImplLay
import Derived.Test.YtjdbkpckhgncbaaWalksLayA
namespace Go.Proofs.Ytjdbkpckhgncbaa
open Go.RowKit
set_option linter.unusedVariables false

theorem law_FnExactLayLine (w : World) (c : Cfg) (hc : CfgFits c) (l : List Cel) (va : Value) (x : ByteArray) (m' f : Int) (hra : RdC w va l) (hl : l.length ≤ maxLen) (hcs : ∀ c ∈ l, c.txt.size ≤ maxLen ∧ c.wid ≤ 9223372036854775807) (hxs : x.size ≤ maxLen)
    (A : Option Addr) (len cap : Nat) (ws : List Int) (hwl : ws.length = len) (hrw : Rd w (.slice A len cap) (ints ws)) (hlm : len ≤ maxLen) :
    Calls Try.prog 4 #[.agg (cfgV c), .agg #[va, .string x, .int .i64 m', .int .i64 f], .slice A len cap] w fun e w' => e = .returned (.bool true) ∧ Below w.heap.size w w' :=
  layLine_law w c l va x m' f hra hl hcs hxs A len cap ws hwl hrw hlm fun vb vw W hb ha hw h1 h2 h3 => implLayLine c l vb vw ws x m' f W ha hw h1 h2 h3
end Go.Proofs.Ytjdbkpckhgncbaa
