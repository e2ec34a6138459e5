/-
  THE LAW TreeParts, WALKED.
-/
import Derived.Test.YtkmphiakciihfaaDoorTcL
import Derived.Test.YtkmphiakciihfaaDoorTpA
import Derived.Test.YtkmphiakciihfaaDoorTrQ
import Derived.Test.YtkmphiakciihfaaDoorTpC
namespace Go.Proofs.YtkmphiakciihfaaDoor
open Go.RowKit

theorem asks_utf8 (w : World) (h : Tabs w) : Asks w (.func (.func 80) #[] #[]) validN :=
  ⟨80, #[], rfl, enters_of Tryd.func80 (by kernel_rfl) rfl, fun W a len cap l hb hr hx => by simpa using valid_any a len cap l W hr hx (tabs_below h hb)⟩

/-- What the bytes of every tag have to be. -/
abbrev qV : Int → List Nat → Bool := qC validN
theorem wantedV (t : Int) : WantedOk Tabs qV t := wantedC Tabs validN (fun _ w' h hb => asks_utf8 w' (tabs_below h hb)) t

theorem wrong_v (V : NV) (T : Tr) (w : World) (hn : NodeAt w V T) (hN : T.cnt ≤ 1000000) (hd : T.dep ≤ 1000000) (hl : Tabs w) :
    Calls Tryd.prog 54 #[V.agg] w fun e w' => e = .returned (.tuple #[.int .i64 (wrongR qV T).1, .int .i64 (wrongR qV T).2]) ∧ Below w.heap.size w w' :=
  wrong_any Tabs (fun _ _ h hb => tabs_below h hb) qV V T w hn hN hd hl (fun p _ => wantedV p.2.tag)

/-- What the rounds over the kids keep. -/
structure PrtI (w1 : World) (ks : List Tr) (N D : Nat) (F : Int) (k : Nat) (s mo f : Int) (wr : World) : Prop where
  sum : s + (cntL (ks.drop k) : Int) = (N : Int)
  one : 1 ≤ s
  most : max mo ((depL (ks.drop k) : Int) + 1) = (D : Int)
  mone : 1 ≤ mo
  first : (if f < 0 then firstK qV s (ks.drop k) else f) = F
  low : -1 ≤ f
  high : f ≤ (N : Int)
  below : Below w1.heap.size w1 wr

end Go.Proofs.YtkmphiakciihfaaDoor