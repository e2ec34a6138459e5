/-
  WHAT 'wanted' ANSWERS OF THE TAGS THAT ARE LEFT (but 12).
-/
import Derived.Test.YtkmphiakciihfaaDoorTcC
import Derived.Test.YtkmphiakciihfaaDoorTcG
import Derived.Test.YtkmphiakciihfaaDoorTcH
namespace Go.Proofs.YtkmphiakciihfaaDoor
open Go.RowKit

theorem wanted_bits (w : World) : Calls Tryd.prog 72 #[.int .i64 3] w fun e w' => e = .returned (.func (.func 76) #[] #[]) ∧ Below w.heap.size w w' := by
  go_enter Tryd.func72, Tryd.ntmps72
  go_wp2
  go_ret
  exact ⟨rfl, Below.refl _ _⟩
theorem wanted_oid (w : World) : Calls Tryd.prog 72 #[.int .i64 6] w fun e w' => e = .returned (.func (.func 79) #[] #[]) ∧ Below w.heap.size w w' := by
  go_enter Tryd.func72, Tryd.ntmps72
  go_wp2
  go_ret
  exact ⟨rfl, Below.refl _ _⟩
theorem wanted_utf8 (w : World) : Calls Tryd.prog 72 #[.int .i64 12] w fun e w' => e = .returned (.func (.func 80) #[] #[]) ∧ Below w.heap.size w w' := by
  go_enter Tryd.func72, Tryd.ntmps72
  go_wp2
  go_ret
  exact ⟨rfl, Below.refl _ _⟩
theorem wanted_short (w : World) : Calls Tryd.prog 72 #[.int .i64 23] w fun e w' => e = .returned (.func (.func 84) #[] #[]) ∧ Below w.heap.size w w' := by
  go_enter Tryd.func72, Tryd.ntmps72
  go_wp2
  go_ret
  exact ⟨rfl, Below.refl _ _⟩
theorem wanted_time (w : World) : Calls Tryd.prog 72 #[.int .i64 24] w fun e w' => e = .returned (.func (.func 85) #[] #[]) ∧ Below w.heap.size w w' := by
  go_enter Tryd.func72, Tryd.ntmps72
  go_wp2
  go_ret
  exact ⟨rfl, Below.refl _ _⟩
theorem wanted_print (w : World) : Calls Tryd.prog 72 #[.int .i64 19] w fun e w' => e = .returned (.func (.func 96) #[] #[.pointer (some ⟨w.heap.size, 0, none⟩)]) ∧ w' = w.alloc (.cells #[.func (.func 82) #[] #[]] 102) := by
  go_enter Tryd.func72, Tryd.ntmps72
  go_wp2_with fail
  refine (eachf_any 82 w).mono ?_
  rintro e w2 ⟨rfl, rfl⟩
  go_wp2_with fail
  go_ret
  exact ⟨rfl, rfl⟩
theorem wanted_ia5 (w : World) : Calls Tryd.prog 72 #[.int .i64 22] w fun e w' => e = .returned (.func (.func 96) #[] #[.pointer (some ⟨w.heap.size, 0, none⟩)]) ∧ w' = w.alloc (.cells #[.func (.func 83) #[] #[]] 102) := by
  go_enter Tryd.func72, Tryd.ntmps72
  go_wp2_with fail
  refine (eachf_any 83 w).mono ?_
  rintro e w2 ⟨rfl, rfl⟩
  go_wp2_with fail
  go_ret
  exact ⟨rfl, rfl⟩

theorem asks_bits (w : World) : Asks w (.func (.func 76) #[] #[]) bitsB :=
  asks_plain Tryd.func76 (enters_of Tryd.func76 (by kernel_rfl) rfl) fun W a len cap l hr hx => (isBits_any a len cap l W hr hx).mono fun _ _ ⟨he, hw⟩ => ⟨he, below_of_drewN hw⟩
theorem asks_oid (w : World) : Asks w (.func (.func 79) #[] #[]) oidB :=
  asks_plain Tryd.func79 (enters_of Tryd.func79 (by kernel_rfl) rfl) fun W a len cap l hr hx => (isOid_any a len cap l W hr hx).mono fun _ _ ⟨he, hw⟩ => ⟨he, hw ▸ Below.refl _ _⟩
theorem asks_short (w : World) : Asks w (.func (.func 84) #[] #[]) shortB :=
  asks_plain Tryd.func84 (enters_of Tryd.func84 (by kernel_rfl) rfl) fun W a len cap l hr hx => short_any a len cap l W hr hx
theorem asks_time (w : World) : Asks w (.func (.func 85) #[] #[]) timeB :=
  asks_plain Tryd.func85 (enters_of Tryd.func85 (by kernel_rfl) rfl) fun W a len cap l hr hx => time_any a len cap l W hr hx

/-- A closure of each. -/
theorem asks_each (w : World) (g : Nat) (p : Nat → Bool) (hE : ∀ args W, (callFunc g args).run Tryd.prog W = .ok (.enter g args) W) (hg : ∀ (x : Nat) (W : World), x < 256 → Calls Tryd.prog g #[.int .u8 (x : Nat)] W fun e w' => e = .returned (.bool (p x)) ∧ w' = W)
    (B : Nat) (hB : w.cell? ⟨B, 0, none⟩ = some (.func (.func g) #[] #[])) : Asks w (.func (.func 96) #[] #[.pointer (some ⟨B, 0, none⟩)]) (fun l => l.all p) :=
  ⟨96, #[.pointer (some ⟨B, 0, none⟩)], rfl, enters_of Tryd.func96 (by kernel_rfl) rfl, fun W a len cap l hb hr hx =>
    (each_any g p hE hg a len cap l W B ((hb.cell (p := ⟨B, 0, none⟩) (World.block_lt_of_cell? w _ hB)).trans hB) hr hx).mono fun _ _ ⟨he, hw⟩ => ⟨he, hw ▸ Below.refl _ _⟩⟩
theorem asks_print (w : World) : Asks (w.alloc (.cells #[.func (.func 82) #[] #[]] 102)) (.func (.func 96) #[] #[.pointer (some ⟨w.heap.size, 0, none⟩)]) (fun l => l.all printB) :=
  asks_each _ 82 printB (enters_of Tryd.func82 (by kernel_rfl) rfl) (fun x W hx => isPrint_any x hx W) w.heap.size (Boxed.new w 102 _).cell
theorem asks_ia5 (w : World) : Asks (w.alloc (.cells #[.func (.func 83) #[] #[]] 102)) (.func (.func 96) #[] #[.pointer (some ⟨w.heap.size, 0, none⟩)]) (fun l => l.all fun x => decide (x < 128)) :=
  asks_each _ 83 _ (enters_of Tryd.func83 (by kernel_rfl) rfl) (fun x W hx => ia5_any x hx W) w.heap.size (Boxed.new w 102 _).cell

/-- What the bytes of a tag have to be; u: what utf8.Valid says. -/
def qC (u : List Nat → Bool) (t : Int) (l : List Nat) : Bool :=
  if t = 1 then boolB l else if t = 2 ∨ t = 10 then intB l else if t = 3 then bitsB l else if t = 4 then true else if t = 5 then decide (l.length = 0) else if t = 6 then oidB l else if t = 12 then u l else if t = 19 then l.all printB
  else if t = 22 then l.all (fun x => decide (x < 128)) else if t = 23 then shortB l else timeB l

/-- Every tag's answer, where utf8.Valid's is known. -/
theorem wantedC (L : World → Prop) (u : List Nat → Bool) (hu : ∀ w w', L w → Below w.heap.size w w' → Asks w' (.func (.func 80) #[] #[]) u) (t : Int) : WantedOk L (qC u) t := by
  by_cases ht : hasB t = true
  · have h : t = 1 ∨ t = 2 ∨ t = 3 ∨ t = 4 ∨ t = 5 ∨ t = 6 ∨ t = 10 ∨ t = 12 ∨ t = 19 ∨ t = 22 ∨ t = 23 ∨ t = 24 := by simpa [hasB] using ht
    intro w hw
    have hal : ∀ o, Below w.heap.size w (w.alloc o) := fun o => (Below.refl _ _).alloc (Nat.le_refl _) _
    rcases h with rfl | rfl | rfl | rfl | rfl | rfl | rfl | rfl | rfl | rfl | rfl | rfl
    · exact (wanted_bool w).mono fun _ w' ⟨he, hb⟩ => .inr ⟨rfl, _, he, asks_bool w', hb⟩
    · exact (wanted_int 2 (.inl rfl) w).mono fun _ w' ⟨he, hb⟩ => .inr ⟨rfl, _, he, asks_int w', hb⟩
    · exact (wanted_bits w).mono fun _ w' ⟨he, hb⟩ => .inr ⟨rfl, _, he, asks_bits w', hb⟩
    · exact (wanted_bytes w).mono fun _ w' ⟨he, hb⟩ => .inr ⟨rfl, _, he, asks_bytes w', hb⟩
    · exact (wanted_null w).mono fun _ w' ⟨he, hb⟩ => .inr ⟨rfl, _, he, asks_null w', hb⟩
    · exact (wanted_oid w).mono fun _ w' ⟨he, hb⟩ => .inr ⟨rfl, _, he, asks_oid w', hb⟩
    · exact (wanted_int 10 (.inr rfl) w).mono fun _ w' ⟨he, hb⟩ => .inr ⟨rfl, _, he, asks_int w', hb⟩
    · exact (wanted_utf8 w).mono fun _ w' ⟨he, hb⟩ => .inr ⟨rfl, _, he, hu w w' hw hb, hb⟩
    · exact (wanted_print w).mono fun _ w' ⟨he, hb⟩ => .inr ⟨rfl, _, he, by rw [hb]; exact asks_print w, by rw [hb]; exact hal _⟩
    · exact (wanted_ia5 w).mono fun _ w' ⟨he, hb⟩ => .inr ⟨rfl, _, he, by rw [hb]; exact asks_ia5 w, by rw [hb]; exact hal _⟩
    · exact (wanted_short w).mono fun _ w' ⟨he, hb⟩ => .inr ⟨rfl, _, he, asks_short w', hb⟩
    · exact (wanted_time w).mono fun _ w' ⟨he, hb⟩ => .inr ⟨rfl, _, he, asks_time w', hb⟩
  · exact wanted_none L _ t (by simpa using ht)

end Go.Proofs.YtkmphiakciihfaaDoor
