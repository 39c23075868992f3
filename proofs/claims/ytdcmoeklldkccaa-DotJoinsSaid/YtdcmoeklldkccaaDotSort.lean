/- dot: slices.SortFunc with compare, at whatever length. -/
import Derived.Test.YtdcmoeklldkccaaDotCmp
import Derived.Test.YtdcmoeklldkccaaShelf
import Derived.Test.YtdcmoeklldkccaaSortRow
namespace Go.Proofs.Ytdcmoeklldkccaa
open Go Go.RowKit Go.ChangeShapes cl Go.Sort Go.Shelf

theorem cc : CC := fun x y w => Try.cmp_Compare_int x y w
def encD (x : Dot) : List Value := [.int .i64 x.1, .int .i64 x.2]
theorem cmpLays (blk off size : Nat) (w : World) : CmpLays Try.prog 30 #[] encD 2 cf blk off size w :=
  fun _ _ _ _ x y => compare_any cc x y _
/-- behind the sort the same slice owns the sorted list -/
def DSortP (g cap q B : Nat) (L : List Dot) (w : World) (e : Ending) (w' : World) : Prop := e = .returned (.tuple #[]) ∧ ∃ L' : List Dot, L'.Perm L ∧ dm.Up L' ∧ w'.ownsRow B 26 2 (.slice (some ⟨g, 0, none⟩) q cap) q (dcells L') ∧ Below B w w'
theorem dsort_any (g cap q B : Nat) (L : List Dot) (w : World) (hown : w.ownsRow B 26 2 (.slice (some ⟨g, 0, none⟩) q cap) q (dcells L)) (hq : q = L.length) (hB : B ≤ w.heap.size) (hlen : q < 4611686018427387904) :
    Calls Try.prog 44 #[.slice (some ⟨g, 0, none⟩) q cap, .func (.func 30) #[] #[]] w (DSortP g cap q B L w) := by
  subst hq
  have hown' : w.ownsRow B 26 2 (.slice (some ⟨g, 0, none⟩) L.length cap) L.length (L.flatMap encD) := hown
  obtain ⟨hH, hg, _, hafter⟩ := kit.sort_own (enc := encD) (fun _ => rfl) (by decide) hown' rfl hB
  have eg : ∀ args w, (callFunc 30 args).run Try.prog w = .ok (.enter 30 args) w := enters_of Try.func30 (by kernel_rfl) rfl
  have hcon := AnyQ.slices_SortFunc Try.sortLab 2 (fun w => Try.isAgg26 w) (fun w => Try.sizeOf26 w) encD (fun _ => rfl) (fun x v hv => by simp [encD] at hv; rcases hv with rfl | rfl <;> rfl) cf swo 30 #[] g 0 cap L.toArray w eg (cmpLays g 0 L.toArray.size w) hH hg (by simpa using hlen)
  change Calls Try.prog 44 _ _ _ at hcon
  rw [List.size_toArray] at hcon
  refine hcon.mono ?_
  rintro e w' ⟨rfl, d', n, os, hp, hs, rfl⟩
  obtain ⟨h1, _, h2⟩ := hp
  have hsz : d'.size = L.length := by rw [h1]; simp
  obtain ⟨o1, o2⟩ := hafter d' n os hsz
  refine ⟨rfl, d'.toList, ?_, ?_, o1, o2⟩
  · have e1 : (d'.extract 0 L.length) = d' := by rw [← hsz]; simp
    have e2 : (L.toArray.extract 0 L.length).toList = L := by simp
    rw [e1, e2] at h2
    exact h2
  · unfold dm.Up
    rw [List.pairwise_iff_getElem]
    intro i j hi hj hij
    have hi' : i < d'.size := by simpa using hi
    have hj' : j < d'.size := by simpa using hj
    have h3 := hs i j (Nat.zero_le _) hij (by rw [← hsz]; exact hj')
    rw [ltOf_cf, getElem!_pos d' j hj', getElem!_pos d' i hi'] at h3
    rw [Array.getElem_toList, Array.getElem_toList]
    exact h3
end Go.Proofs.Ytdcmoeklldkccaa
