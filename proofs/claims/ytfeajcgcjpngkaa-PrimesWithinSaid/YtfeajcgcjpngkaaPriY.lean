/-
  THE HEAP's METHODS, AS AN INTERFACE FINDS THEM. (227 is the number of the program's types and a hundred: off the walk's own print.)
-/
import Derived.Test.YtfeajcgcjpngkaaPriX
import Derived.Test.YtfeajcgcjpngkaaPriQ
namespace Go.Proofs.Ytfeajcgcjpngkaa
open Go.RowKit
theorem wnc (n : String) (b : Nat) (w : World) : (Builtin.ssaWrapNilChk_ #[80] 80 #[.pointer (some ⟨b, 0, none⟩), strVal "", strVal n]).run Try.prog w = .ok (.pointer (some ⟨b, 0, none⟩)) w := by kernel_rfl
theorem ld (b : Nat) (w : World) (v : Value) (h : w.cell? ⟨b, 0, none⟩ = some v) : (loadVar 82 ⟨b, 0, none⟩).run Try.prog w = .ok v w := by
  have ha : ∀ w, (isAgg 82).run Try.prog w = .ok false w := fun _ => by kernel_rfl
  unfold loadVar
  simp [ha, h]
set_option maxRecDepth 100000 in
theorem recv (n : String) (b : Nat) (w : World) (v : Value) (h : w.cell? ⟨b, 0, none⟩ = some v) : (receiverAt 80 (.val (.pointer (some ⟨b, 0, none⟩))) false (some n)).run Try.prog w = .ok v w := by
  have hu : ∀ w, (underlying 80).run Try.prog w = .ok (.pointer 82) w := fun _ => by kernel_rfl
  have hl := ld b w v h
  have hw := wnc n b w
  have hp : ∀ w, (Place.get 80 (.val (.pointer (some ⟨b, 0, none⟩)))).run Try.prog w = .ok (.pointer (some ⟨b, 0, none⟩)) w := fun _ => by kernel_rfl
  have ha : ∀ w, (asAddr (.pointer (some ⟨b, 0, none⟩))).run Try.prog w = .ok ⟨b, 0, none⟩ w := fun _ => by kernel_rfl
  unfold receiverAt
  rw [Sem.run_bind, hu]
  simp only [Result.andThen]
  rw [Sem.run_bind, hp]
  simp only [Result.andThen]
  rw [Sem.run_bind, hw]
  simp only [Result.andThen]
  rw [Sem.run_bind, ha]
  simp only [Result.andThen]
  exact hl
set_option maxRecDepth 100000 in
theorem m_val (nm : String) (k sg : Nat) (f : Nat) (b : Nat) (w : World) (v : Value) (h : w.cell? ⟨b, 0, none⟩ = some v)
    (inf : ∃ I : TypeInfo, (∀ w, (typeInfo 80).run Try.prog w = .ok I w) ∧ I.methods.find? (fun x => x.name == nm) = some ⟨nm, sg, #[], some (k, false)⟩) :
    (method (f + 1) 80 (.pointer (some ⟨b, 0, none⟩)) nm).run Try.prog w = .ok (k, v) w := by
  obtain ⟨I, hI, hf⟩ := inf
  have hr := recv ((nm.splitOn ".").getLastD nm) b w v h
  have hfo : ∀ w, (follow [] 80 (.val (.pointer (some ⟨b, 0, none⟩)))).run Try.prog w = .ok (80, .val (.pointer (some ⟨b, 0, none⟩))) w := fun _ => by kernel_rfl
  unfold method
  rw [Sem.run_bind, hI]
  simp only [Result.andThen, hf]
  rw [Sem.run_bind, hfo]
  simp only [Result.andThen]
  rw [Sem.run_bind, if_pos (show (#[] : Array FieldStep).isEmpty = true from rfl), hr]
  rfl
theorem m_len (f b : Nat) (w : World) (v : Value) (h : w.cell? ⟨b, 0, none⟩ = some v) : (method (f + 1) 80 (.pointer (some ⟨b, 0, none⟩)) "Len").run Try.prog w = .ok (88, v) w :=
  m_val "Len" _ 101 f b w v h ⟨Try.prog.types[80]?.getD default, fun w => by kernel_rfl, by kernel_rfl⟩
theorem m_less (f b : Nat) (w : World) (v : Value) (h : w.cell? ⟨b, 0, none⟩ = some v) : (method (f + 1) 80 (.pointer (some ⟨b, 0, none⟩)) "Less").run Try.prog w = .ok (89, v) w :=
  m_val "Less" _ 111 f b w v h ⟨Try.prog.types[80]?.getD default, fun w => by kernel_rfl, by kernel_rfl⟩
theorem m_swap (f b : Nat) (w : World) (v : Value) (h : w.cell? ⟨b, 0, none⟩ = some v) : (method (f + 1) 80 (.pointer (some ⟨b, 0, none⟩)) "Swap").run Try.prog w = .ok (92, v) w :=
  m_val "Swap" _ 108 f b w v h ⟨Try.prog.types[80]?.getD default, fun w => by kernel_rfl, by kernel_rfl⟩
theorem m_push (b : Nat) (w : World) : (method 227 80 (.pointer (some ⟨b, 0, none⟩)) "Push").run Try.prog w = .ok (91, .pointer (some ⟨b, 0, none⟩)) w := by kernel_rfl
theorem m_pop (b : Nat) (w : World) : (method 227 80 (.pointer (some ⟨b, 0, none⟩)) "Pop").run Try.prog w = .ok (90, .pointer (some ⟨b, 0, none⟩)) w := by kernel_rfl

end Go.Proofs.Ytfeajcgcjpngkaa
