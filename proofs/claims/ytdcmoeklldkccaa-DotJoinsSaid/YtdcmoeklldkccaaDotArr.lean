/- dot: an array of sixteen that is stored, and loaded, whole. -/
import Derived.Test.YtdcmoeklldkccaaDotUp
import Derived.Deep.MidRow
namespace Go.Proofs.Ytdcmoeklldkccaa
open Go Go.RowKit Go.ChangeShapes cl

def arrL (K : Int → Int) : List Value := (List.range 16).map fun j : Nat => .int .i64 (K j)
theorem arrL_get (K : Int → Int) {j : Nat} (hj : j < 16) : (arrL K)[j]? = some (.int .i64 (K j)) := by simp [arrL, hj]
theorem arrL_len (K : Int → Int) : (arrL K).length = 16 := by simp [arrL]
theorem arrV_L (K : Int → Int) : arrV K = .agg (arrL K).toArray := rfl
theorem infoArr : (Try.prog.info? 49).map (·.size) = some 16 := by kernel_rfl
theorem frozen_setCells (b : Nat) : ∀ (vs : List Value) (o : Nat) (w : World) (p : Addr), (w.setCells b o vs).frozen? p = w.frozen? p := by
  intro vs
  induction vs with
  | nil => intro o w p; rfl
  | cons v r ih => intro o w p; unfold World.setCells; rw [ih, World.frozen?_setCell]
theorem size_setCells (b : Nat) : ∀ (vs : List Value) (o : Nat) (w : World), (w.setCells b o vs).heap.size = w.heap.size := by
  intro vs
  induction vs with
  | nil => intro o w; rfl
  | cons v r ih => intro o w; unfold World.setCells; rw [ih]; simp [World.setCell]
theorem below_setCells {B b : Nat} (hb : B ≤ b) {w0 : World} : ∀ (vs : List Value) (o : Nat) (w : World), Below B w0 w → Below B w0 (w.setCells b o vs) := by
  intro vs
  induction vs with
  | nil => intro o w h; exact h
  | cons v r ih => intro o w h; unfold World.setCells; exact ih _ _ (h.setCell (p := ⟨b, o, none⟩) hb v)
theorem KAt.range {w : World} {g : Nat} {K : Int → Int} (h : KAt w g K) : w.rangeAt g 0 (arrL K) := fun j v hv => by
  have hj : j < 16 := by have := (List.getElem?_eq_some_iff.1 hv).1; rwa [arrL_len] at this
  rw [arrL_get K hj] at hv
  rw [Nat.zero_add, (h j hj).1, hv]
theorem KAt.fill {w : World} {g : Nat} {K0 : Int → Int} (h : KAt w g K0) (K : Int → Int) : KAt (w.setCells g 0 (arrL K)) g K := fun j hj => by
  have ht : w.there g 0 (arrL K).length := fun i hi => by
    rw [arrL_len] at hi
    rw [Nat.zero_add, (h i hi).1]
    exact ⟨rfl, (h i hi).2⟩
  refine ⟨?_, by rw [frozen_setCells]; exact (h j hj).2⟩
  have := World.rangeAt_setCells_same w g 0 (arrL K) ht j _ (arrL_get K hj)
  rwa [Nat.zero_add] at this
theorem KAt.congr {w : World} {g : Nat} {K K' : Int → Int} (h : KAt w g K) (e : ∀ j : Nat, j < 16 → K j = K' j) : KAt w g K' := fun j hj => by rw [← e j hj]; exact h j hj
theorem store_arr {ops : Array Oper} {rest : List Oper} {op : Oper} {a : Act} {w : World} {Q : Exit → Act → World → Prop} (hgd : op.guard = none) (x y : Operand) (ho : op.op = .store 49 x y)
    (g : Nat) (hx : a.eval x = .pointer (some ⟨g, 0, none⟩)) (K : Int → Int) (hy : a.eval y = arrV K) (K0 : Int → Int) (hk : KAt w g K0)
    (h : ∀ w', KAt w' g K → (∀ p : Addr, p.block ≠ g → w'.cell? p = w.cell? p) → (∀ p, w'.frozen? p = w.frozen? p) → w'.heap.size = w.heap.size → (∀ B, B ≤ g → Below B w w') → wpList Try.prog ops Q rest (a.put op.dst undef) w') :
    wpList Try.prog ops Q (op :: rest) a w := by
  refine wpList_store_mid hgd _ x y ho g 0 (arrL K).toArray hx (by rw [hy, arrV_L]) (fun i hi => ?_) (by rw [infoArr]; simp [arrL_len]) ?_ ?_
  · have hi6 : i < 16 := by simpa [arrL_len] using hi
    rw [Nat.zero_add, (hk i hi6).1]
    exact ⟨rfl, (hk i hi6).2⟩
  · refine all_oneCell_toArray fun v hv => ?_
    simp only [arrL, List.mem_map] at hv
    obtain ⟨j, _, rfl⟩ := hv
    rfl
  · refine h _ (hk.fill K) (fun p hp => ?_) (fun p => frozen_setCells _ _ _ _ _) (size_setCells _ _ _ _) (fun B hB => below_setCells hB _ _ _ (Below.refl _ _))
    exact World.cell?_setCells_out g _ 0 w p (fun e _ => absurd e hp)
end Go.Proofs.Ytdcmoeklldkccaa
