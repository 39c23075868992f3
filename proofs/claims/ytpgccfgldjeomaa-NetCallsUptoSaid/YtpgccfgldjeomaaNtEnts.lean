/- net: twin.Entries. -/
import Derived.Test.YtpgccfgldjeomaaNtEnt
namespace Go.Proofs.Ytpgccfgldjeomaa
open Go.RowKit Go.ChangeShapes cl
theorem Kt.append {T : TypeId} {B k n : Nat} {v : Value} {xs : List Value} {w w' : World} (h : w.ownsRow B T k v n xs) (hg : w.grownBy w' v.ownBlock) : Kt T w w' := by
  rcases h.2 with ⟨rfl, _⟩ | ⟨g, cap, cur, rfl, hb, hgg, _⟩
  · exact ⟨hg.size, fun q hq _ => hg.block q hq (by simp [Value.ownBlock])⟩
  · exact Kt.of_grown hg hgg
theorem ninfo_ent : (Try.prog.info? 78).map (fun i => (i.zero, i.size, i.bytes)) = some (some (.agg #[.string ⟨#[]⟩, .int .i64 0, .int .i64 0, .int .i64 0, .slice none 0 0]), 5, 64) := by kernel_rfl
theorem take_one {α : Type} (l : List α) (k : Nat) (d : α) (h : k < l.length) : l.take (k + 1) = l.take k ++ [l.getD k d] := by
  rw [List.take_add_one, List.getD_eq_getElem?_getD, List.getElem?_eq_getElem h]; rfl
/-- entries whose links are not too many -/
def Few (l : List cd.Ent) : Prop := ∀ x ∈ l, x.l.length ≤ 1000000000000
set_option maxHeartbeats 1600000 in
set_option maxRecDepth 100000 in
theorem twents_any (l : List cd.Ent) (v : Value) (w : World) (h : RowsAt 5 entR w w.heap.size v l) (hl : l.length ≤ 1000000000) (hf : Few l) :
    Calls Try.prog 46 #[v] w (fun e w' => ∃ o m k, e = .returned (.slice o m k) ∧ RowsO w.heap.size 78 5 entO w' (.slice o m k) l ∧ Below w.heap.size w w') := by
  obtain ⟨n, hn⟩ : ∃ n, n = l.length := ⟨_, rfl⟩
  obtain ⟨ao, cap, rfl, hnc, hnm⟩ := h.form' hn
  rw [← hn] at hl
  unfold maxLen at hnm
  have HV := Lib.hid h
  have HN := Lib.hid hn
  have HF := Lib.hid hf
  clear h hn hf
  go_enter Try.func46, Try.ntmps46
  go_wp2
  go_loopw [3, 8, 17] (fun v i _ wr => ∃ (k : Nat) (o : Option Addr) (m c : Nat), v = .slice o m c ∧ i = .int .i64 k ∧ k ≤ n ∧ Hid (RowsO w.heap.size 78 5 entO wr (.slice o m c) (l.take k)) ∧ Hid (Below w.heap.size w wr)) (fun _ i _ _ => n - (intOf i).toNat)
  case atStart => exact ⟨0, none, 0, 0, rfl, rfl, by omega, RowsO.nil _, Below.refl _ _⟩
  case round =>
    obtain ⟨k, o, m, c, rfl, rfl, hk, HO, HB⟩ := hrel
    by_cases hlt : k < n
    · have hkI : (k : Int) < (n : Int) := by omega
      obtain ⟨b, off, cc, rfl, hbB, hck, hR, hcell⟩ := (HV.out.next entR_steady HB.out).get HN.out hlt default
      obtain ⟨x, hx⟩ : ∃ x, x = l.getD k default := ⟨_, rfl⟩
      have HX : Hid (l.take (k + 1) = l.take k ++ [x]) := by
        show _ = _
        rw [hx]; exact take_one l k default (by rw [← HN.out]; exact hlt)
      have hxl : x.l.length ≤ 1000000000000 := HF.out x (by
        rw [hx, List.getD_eq_getElem?_getD, List.getElem?_eq_getElem (by rw [← HN.out]; exact hlt)]
        exact List.getElem_mem _)
      rw [← hx] at hR
      obtain ⟨lo, ln, lc, rfl, hsz, hlk⟩ := hR
      obtain ⟨x0, ⟨x1, x2⟩, x3, x4⟩ := x
      have c0 : wr.cell? ⟨b, off + k * 5, none⟩ = some (.string x0) := by simpa using hcell 0 _ rfl
      have c1 : wr.cell? ⟨b, off + k * 5 + 1, none⟩ = some (.int .i64 x1) := by simpa using hcell 1 _ rfl
      have c2 : wr.cell? ⟨b, off + k * 5 + 2, none⟩ = some (.int .i64 x2) := by simpa using hcell 2 _ rfl
      have c3 : wr.cell? ⟨b, off + k * 5 + 3, none⟩ = some (.int .i64 x3) := by simpa using hcell 3 _ rfl
      have c4 : wr.cell? ⟨b, off + k * 5 + 4, none⟩ = some (.slice lo ln lc) := by simpa using hcell 4 _ rfl
      have hb1 : Below wr.heap.size wr (wr.alloc (.cells #[.string x0, .int .i64 x1, .int .i64 x2, .int .i64 x3, .slice lo ln lc] 78)) := below1
      have HC := Lib.hid (twent_any x0 x1 x2 x3 x4 lo ln lc _ (RowsAt.next lnkR_steady hlk hb1) hxl)
      have HB1 := Lib.hid hb1
      have HSZ := Lib.hid hsz
      have hws : w.heap.size ≤ wr.heap.size := HB.out.size
      clear hx hlk hb1 hsz hcell hxl
      go_wp2_with fail
      (with_reducible refine HC.out.mono ?_)
      rintro e w2 ⟨lo2, ln2, lc2, rfl, hr2, hb2⟩
      have hb3 := HB1.out.trans (hb2.mono HB1.out.size)
      have hE : entO w2 [.string x0, .int .i64 x1, .int .i64 x2, .int .i64 x3, .slice lo2 ln2 lc2] ⟨x0, (x1, x2), x3, x4⟩ := ⟨lo2, ln2, lc2, rfl, HSZ.out, hr2.base⟩
      obtain ⟨cs, e0, e1, hown⟩ := RowsO.kt (entO_pst (by decide)) (by decide) HO.out (Kt.of_below (T := 9) hb3)
      have hlk : (l.take k).length = k := by rw [List.length_take, ← HN.out]; omega
      rw [hlk] at hown
      have hbl : Below w2.heap.size w2 (w2.alloc (.cells #[.string x0, .int .i64 x1, .int .i64 x2, .int .i64 x3, .slice lo2 ln2 lc2] 78)) := below1
      have hBw2 := HB.out.trans (hb3.mono HB.out.size)
      have hz2 : w.heap.size ≤ w2.heap.size := hBw2.size
      have HLK := Lib.hid hlk
      have HE0 := Lib.hid e0
      have HE1 := Lib.hid e1
      have HEE := Lib.hid hE
      have HBW2 := Lib.hid hBw2
      have HBL := Lib.hid hbl
      clear e0 e1 hE hr2 hb2 hb3 hlk hBw2 hbl HC HB1
      go_wp2_with (at_builtin; refine app1g (.tmp 12) (.tmp 15) 23 rfl rfl w.heap.size Try.underlying23 ninfo_ent rfl (by decide) (by decide) hown rfl rfl rfl (by intro u hu; simp at hu; rcases hu with rfl | rfl | rfl | rfl | rfl <;> rfl) (by omega) hz2 ?_)
      intro v' w3 hown' hg3
      have hoA := World.ownsRow.alloc hown (.cells #[.string x0, .int .i64 x1, .int .i64 x2, .int .i64 x3, .slice lo2 ln2 lc2] 78)
      have hkA : Kt 78 (w2.alloc (.cells #[.string x0, .int .i64 x1, .int .i64 x2, .int .i64 x3, .slice lo2 ln2 lc2] 78)) w3 := Kt.append hoA hg3
      have hkB := (Kt.of_below (T := 78) HBL.out).trans hkA
      have HO' : Hid (RowsO w.heap.size 78 5 entO w3 v' (l.take (k + 1))) := by
        show RowsO _ _ _ _ _ _ _
        rw [HX.out]
        exact RowsO.snoc (c := [.string x0, .int .i64 x1, .int .i64 x2, .int .i64 x3, .slice lo2 ln2 lc2]) HE0.out HE1.out hkB (entO_pst (by decide)) rfl HEE.out (by rw [HLK.out]; simpa using hown')
      have HB3 : Hid (Below w.heap.size w w3) := HBW2.out.trans ((HBL.out.mono hz2).trans (grown_below hoA (by simp; omega) hg3))
      obtain ⟨o3, m3, c3, rfl⟩ := own_slice hown'
      clear hown' hown hg3 hoA hkA hkB HEE
      go_wp2
      go_roundw
      case rel => exact ⟨k + 1, o3, m3, c3, rfl, by go_num, by omega, HO', HB3⟩
      case measure => simp [intOf]; omega
    · have HE : Hid (RowsO w.heap.size 78 5 entO wr (.slice o m c) l) := by
        have := HO.out
        rw [List.take_of_length_le (by rw [← HN.out]; omega)] at this
        exact this
      go_wp2
      go_ret
      exact ⟨_, _, _, rfl, HE.out, HB.out⟩
end Go.Proofs.Ytpgccfgldjeomaa
