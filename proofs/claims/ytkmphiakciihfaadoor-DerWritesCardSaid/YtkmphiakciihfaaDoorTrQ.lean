/-
  THE LAWS' alive, is, wrong, fits: what is known of all trees serves for the chapter's first examples.
-/
import Derived.Test.YtkmphiakciihfaaDoorTrP
import Derived.Test.YtkmphiakciihfaaDoorTrI
import Derived.Test.YtkmphiakciihfaaDoorByt
import Derived.Lib.ConvBytes
namespace Go.Proofs.YtkmphiakciihfaaDoor
open Go.RowKit

theorem convT {w : World} {a : Option Addr} {len cap : Nat} {l : List Nat} (h : Reads .u8 w a len cap l) (hx : Byt l) :
    (convert 22 9 (.slice a len cap)).run Tryd.prog w = .ok (.string ⟨(u8s l).toArray⟩) w :=
  (h.bts hx).convert (P := Tryd.prog) _ _ _ Tryd.underlying22 Tryd.underlying5 Tryd.underlying9

theorem u8T_ne {l m : List Nat} (h : Byt l) (k : Byt m) (e : l ≠ m) : (u8s l == u8s m) = false := beq_eq_false_iff_ne.2 fun h9 => e (u8s_inj h k h9)

theorem equalT_any (a a' : Option Addr) (n c n' c' : Nat) (l m : List Nat) (w : World) (hl : Reads .u8 w a n c l) (hm : Reads .u8 w a' n' c' m) (bl : Byt l) (bm : Byt m) :
    Calls Tryd.prog 51 #[.slice a n c, .slice a' n' c'] w fun e w' => e = .returned (.bool (decide (l = m))) ∧ w' = w := by
  have c1 := convT hl bl
  have c2 := convT hm bm
  by_cases h : l = m
  · subst h
    go_enter Tryd.func51, Tryd.ntmps51
    go_wp2
    go_ret
    exact ⟨by first | rfl | (simp; rfl), rfl⟩
  · have hne := u8T_ne bl bm h
    have hd := Lib.hid (show decide (l = m) = false from decide_eq_false h)
    clear h
    go_enter Tryd.func51, Tryd.ntmps51
    go_wp2
    go_ret
    exact ⟨by rw [hd.out]; rfl, rfl⟩

theorem reads8_lit (w : World) (E : TypeId) (l : List Nat) (cs : Array Value) (h : cs.toList = l.map (num .u8)) (hl : l.length ≤ maxLen) : Reads .u8 (w.alloc (.cells cs E)) (some ⟨w.heap.size, 0, none⟩) l.length l.length l := by
  refine ⟨rfl, Nat.le_refl _, hl, (fun h => by cases h), fun _ => ⟨w.heap.size, 0, rfl, by simp, fun i hi => ?_⟩⟩
  rw [Nat.zero_add, World.cell?_alloc_at _ _ _ _ rfl]
  have : cs.toList[i]? = (l.map (num .u8))[i]? := by rw [h]
  rw [List.getElem?_map, List.getElem?_eq_getElem hi] at this
  rw [← Array.getElem?_toList, this, List.getElem?_eq_getElem hi]
  rfl

theorem noL : ∀ W W' : World, True → Below W.heap.size W W' → True := fun _ _ h _ => h

/-- The tags of the examples. -/
def qA : Int → List Nat → Bool := fun t => if t = 1 then boolB else if t = 5 then fun l => decide (l.length = 0) else intB
theorem wantedA (t : Int) (h : t = 1 ∨ t = 2 ∨ t = 5 ∨ t = 16) : WantedOk (fun _ => True) qA t := by
  rcases h with rfl | rfl | rfl | rfl
  · exact fun w _ => (wanted_bool w).mono fun e w' ⟨he, hb⟩ => .inr ⟨rfl, _, he, asks_bool w', hb⟩
  · exact fun w _ => (wanted_int 2 (.inl rfl) w).mono fun e w' ⟨he, hb⟩ => .inr ⟨rfl, _, he, asks_int w', hb⟩
  · exact fun w _ => (wanted_null w).mono fun e w' ⟨he, hb⟩ => .inr ⟨rfl, _, he, asks_null w', hb⟩
  · exact wanted_none _ _ 16 rfl

theorem u8T_size (l : List Nat) : (⟨(u8s l).toArray⟩ : ByteArray).size = l.length := by show (u8s l).toArray.size = _; simp [u8s]
theorem bytesT_below (w : World) (e : TypeId) (s : ByteArray) : Below w.heap.size w (Lib.bytesWorld w e s) :=
  ⟨rfl, rfl, rfl, by rw [Lib.bytesWorld_size]; omega, fun j hj => Lib.bytesWorld_at_old w e s j hj⟩
theorem bytesT_reads (w : World) (e : TypeId) (l : List Nat) (hl : Byt l) (hm : l.length ≤ 1000000) : Reads .u8 (Lib.bytesWorld w e ⟨(u8s l).toArray⟩) (some ⟨w.heap.size, 0, none⟩) l.length (grownCap w l.length 0 e) l := by
  refine ⟨rfl, grownCap_ge w l.length 0 e, grownCap_le_maxLen w l.length 0 e (by unfold maxLen; omega), (fun h => by cases h), fun _ => ⟨w.heap.size, 0, rfl, by rw [Lib.bytesWorld_size]; omega, fun i hi => ?_⟩⟩
  rw [Nat.zero_add, Lib.bytesWorld_cell w e _ i (by rw [u8T_size]; exact hi)]
  have := u8s_get l hl i
  rw [← this]
  simp [List.getD]

/-- The tree of the second example. -/
abbrev exT : Tr := .mk 0 16 true [] [.mk 0 2 false [5] [], .mk 0 5 false [0] []]

theorem nodes2 (w : World) (V1 V2 : NV) (T1 T2 : Tr) (h1 : NodeAt w V1 T1) (h2 : NodeAt w V2 T2) (E : TypeId) :
    NodesAt (w.alloc (.cells #[.int .i64 V1.cls, .int .i64 V1.tag, .bool V1.cons, .slice V1.ba V1.bl V1.bc, .slice V1.ka V1.kl V1.kc, .int .i64 V2.cls, .int .i64 V2.tag, .bool V2.cons, .slice V2.ba V2.bl V2.bc, .slice V2.ka V2.kl V2.kc] E)) (some ⟨w.heap.size, 0, none⟩) 2 2 [T1, T2] := by
  have hb : Below w.heap.size w (w.alloc (.cells #[.int .i64 V1.cls, .int .i64 V1.tag, .bool V1.cons, .slice V1.ba V1.bl V1.bc, .slice V1.ka V1.kl V1.kc, .int .i64 V2.cls, .int .i64 V2.tag, .bool V2.cons, .slice V2.ba V2.bl V2.bc, .slice V2.ka V2.kl V2.kc] E)) := (Below.refl _ _).alloc (Nat.le_refl _) _
  refine ⟨rfl, Nat.le_refl _, by unfold maxLen; omega, (fun h => by cases h), fun i => if i = 0 then V1 else V2, fun _ => ⟨w.heap.size, 0, rfl, by simp, fun i hi => ?_⟩, fun i hi => ?_⟩
  · rcases (show i = 0 ∨ i = 1 by omega) with rfl | rfl
    · constructor <;> simp
    · constructor <;> simp
  · rcases (show i = 0 ∨ i = 1 by simp at hi; omega) with rfl | rfl
    · exact h1.under hb
    · exact h2.under hb

end Go.Proofs.YtkmphiakciihfaaDoor