/- texts put together: DotSort2. -/
import Derived.Test.YtonknpdalemjkaaGreatDe08
import Derived.Shelf.SlSortCmp.NoneTotal
namespace Go.Proofs.YtonknpdalemjkaaGreat
open Go Go.RowKit Go.ChangeShapes cl Go.Sort Go.Shelf
theorem own_stayD {B : Nat} {e : TypeId} {k : Nat} {v : Value} {n : Nat} {xs : List Value} {w w' : World} (h : w.ownsRow B e k v n xs) (hb : Below w.heap.size w w') : w'.ownsRow B e k v n xs :=
 h.kept (row := none) ⟨hb.os, hb.tape, hb.output, hb.size, fun i hi _ => hb.block i hi⟩ (by cases v.ownBlock <;> simp)
theorem own_keep {B D : Nat} {e : TypeId} {k : Nat} {v : Value} {n : Nat} {xs : List Value} {w w' : World} (h : w.ownsRow B e k v n xs) (hlt : ∀ g, v.ownBlock = some g → g < D) (hb : Below D w w') : w'.ownsRow B e k v n xs := by
 refine ⟨h.1, ?_⟩
 rcases h.2 with h1 | ⟨g, cap, cur, rfl, hbg, hg, h2⟩
 ·
  exact Or.inl h1
 ·
  exact Or.inr ⟨g, cap, cur, rfl, hbg, by rw [hb.block g (hlt g rfl)]; exact hg, h2⟩
theorem own_lt {w : World} {base H : Nat} {e : TypeId} {v : Value} {n k : Nat} {vs : List Value} (h : w.ownsRow base e k v n vs) (hlt : ∀ g, v.ownBlock = some g → g < H) : Cells w H v n k vs := by
 obtain ⟨h0, ao, cap, rfl, h1, h3, h4⟩ := Cells.own h
 refine ⟨h0, ao, cap, rfl, h1, h3, fun hp => ?_⟩
 obtain ⟨b, off, rfl, _, hc⟩ := h4 hp
 exact ⟨b, off, rfl, hlt b rfl, hc⟩
theorem own_formD {w : World} {base : Nat} {e : TypeId} {v : Value} {n k : Nat} {vs : List Value} (h : w.ownsRow base e k v n vs) : ∃ ao cap, v = .slice ao n cap := by
 rcases h.2 with ⟨rfl, rfl⟩ | ⟨g, cap, cur, rfl, _⟩
 ·
  exact ⟨_, _, rfl⟩
 ·
  exact ⟨_, _, rfl⟩
theorem sort_grown {α : Type} [Inhabited α] {w : World} {enc : α → List Value} {k g m : Nat} {d : Array α} {os : Array Obj} : w.grownBy (sortWorldK enc k w g 0 m d os) (some g) := by
 unfold sortWorldK putRowK
 refine ⟨rfl, rfl, rfl, by simp, fun i hi hne => ?_⟩
 have hne : g ≠ i := fun e => hne (by rw [e])
 rw [heap_grow_old _ _ (by simp; omega)]
 simp [putRow, mapBlock, Sort.ahead, Array.getElem?_modify, hne]
theorem grown_keep {w w' : World} {v : Value} {i : Nat} (h : w.grownBy w' v.ownBlock) (hi : i < w.heap.size) (hne : ∀ g, v.ownBlock = some g → g ≠ i) : w'.heap[i]? = w.heap[i]? :=
 h.block i hi fun e => hne i e.symm rfl
def DSortA (B q : Nat) (v : Value) (L : List Dot) (w : World) (e : Ending) (w' : World) : Prop :=
 e = .returned (.tuple #[]) ∧ ∃ L' : List Dot, L'.Perm L ∧ dm.Up L' ∧ w'.ownsRow B 51 2 v q (dcells L') ∧ w.grownBy w' v.ownBlock
theorem dsort_all (v : Value) (q B : Nat) (L : List Dot) (w : World) (hown : w.ownsRow B 51 2 v q (dcells L)) (hq : q = L.length) (hB : B ≤ w.heap.size) (hlen : q < 4611686018427387904) :
  Calls Tryz.prog 103 #[v, .func (.func 98) #[] #[]] w (DSortA B q v L w) := by
 subst hq
 rcases hown.2 with ⟨rfl, hq0⟩ | ⟨g, cap, cur, rfl, _⟩
 ·
  have hcon := AnyF.slices_SortFunc_none Tryz.sortDot none 0 (.func (.func 98) #[] #[]) w
  change Calls Tryz.prog 103 _ _ _ at hcon
  refine hcon.mono ?_
  rintro e w' ⟨rfl, rfl⟩
  obtain rfl : L = [] := List.eq_nil_of_length_eq_zero hq0
  exact ⟨rfl, [], List.Perm.refl _, List.Pairwise.nil, hown, ⟨rfl, rfl, rfl, Nat.le_refl _, fun _ _ _ => rfl⟩⟩
 ·
  have hown' : w.ownsRow B 51 2 (.slice (some ⟨g, 0, none⟩) L.length cap) L.length (L.flatMap encD) := hown
  obtain ⟨hH, hg, _, hafter⟩ := kit.sort_own (enc := encD) (fun _ => rfl) (by decide) hown' rfl hB
  have eg : ∀ args w, (callFunc 98 args).run Tryz.prog w = .ok (.enter 98 args) w := enters_of Tryz.func98 (by kernel_rfl) rfl
  have hcon := AnyQ.slices_SortFunc Tryz.sortDot 2 (fun w => Tryz.isAgg51 w) (fun w => Tryz.sizeOf51 w) encD (fun _ => rfl) (fun x v hv => by simp [encD] at hv; rcases hv with rfl | rfl <;> rfl) cf swo 98 #[] g 0 cap L.toArray w eg (cmpLays g 0 L.toArray.size w) hH hg (by simpa using hlen)
  change Calls Tryz.prog 103 _ _ _ at hcon
  rw [List.size_toArray] at hcon
  refine hcon.mono ?_
  rintro e w' ⟨rfl, d', n, os, hp, hs, rfl⟩
  obtain ⟨h1, _, h2⟩ := hp
  have hsz : d'.size = L.length := by rw [h1]; simp
  obtain ⟨o1, _⟩ := hafter d' n os hsz
  refine ⟨rfl, d'.toList, ?_, ?_, o1, sort_grown⟩
  ·
   have e1 : (d'.extract 0 L.length) = d' := by rw [← hsz]; simp
   have e2 : (L.toArray.extract 0 L.length).toList = L := by simp
   rw [e1, e2] at h2
   exact h2
  ·
   unfold dm.Up
   rw [List.pairwise_iff_getElem]
   intro i j hi hj hij
   have hi' : i < d'.size := by simpa using hi
   have hj' : j < d'.size := by simpa using hj
   have h3 := hs i j (Nat.zero_le _) hij (by rw [← hsz]; exact hj')
   rw [ltOf_cf, getElem!_pos d' j hj', getElem!_pos d' i hi'] at h3
   rw [Array.getElem_toList, Array.getElem_toList]
   exact h3
end Go.Proofs.YtonknpdalemjkaaGreat
