/- block.read on a stretch of a right block. -/
import Derived.Test.YtniphmfkccaccaaEnc
import Derived.Test.YtniphmfkccaccaaBlkBack
import Derived.Test.YtniphmfkccaccaaGet
namespace Go.Proofs.Ytniphmfkccaccaa
open Go.RowKit Go.ChangeShapes at_

theorem infoInt : (Try.prog.info? 3).map (fun i => (i.zero, i.size, i.bytes)) = some (some (.int .i64 0), 1, 8) := by kernel_rfl
def ReadP (l : List Int) (s m : Nat) (w : World) (e : Ending) (w' : World) : Prop := ∃ v, e = .returned (.tuple #[v, .bool true]) ∧ w'.ownsRow w.heap.size 3 1 v m (i64s ((l.drop s).take m)) ∧ Below w.heap.size w w'
theorem take_one {l : List Int} {s : Nat} (h : s < l.length) : (l.drop s).take 1 = [l.getD s 0] := by
  rw [List.drop_eq_getElem_cons h, List.take_succ_cons, List.take_zero]; simp [List.getD, h]
theorem take_more {l : List Int} {s j : Nat} (h : s + j < l.length) : (l.drop s).take (j + 1) = (l.drop s).take j ++ [l.getD (s + j) 0] := by
  rw [List.take_succ_eq_append_getElem (by rw [List.length_drop]; omega)]; simp [List.getD, h]

theorem lit_drew (w : World) (o : Obj) (q : Nat) (u : Value) (e : TypeId) :
    (((w.alloc o).drewN q).alloc (.cells #[u] e)).ownsRow w.heap.size e 1 (.slice (some ⟨w.heap.size + 1, 0, none⟩) 1 1) 1 [u] ∧ Below w.heap.size w (((w.alloc o).drewN q).alloc (.cells #[u] e)) := by
  have hz : ((w.alloc o).drewN q).heap.size = w.heap.size + 1 := by simp
  have hb := below_drewN ((Below.refl w.heap.size w).alloc (Nat.le_refl _) o) q
  refine ⟨?_, hb.alloc (by omega) _⟩
  have := World.ownsRow_lit (base := w.heap.size) (e := e) (size := 1) ((w.alloc o).drewN q) #[u] 1 (by omega) (by simp [maxLen]) rfl
  rw [hz] at this
  exact this

set_option maxHeartbeats 6400000 in
set_option maxRecDepth 100000 in
theorem read_right (l : List Int) (s m1 : Nat) (w : World) (hl : l.length ≤ 4000) (hr : bm.Rise l l.length) (hs : s % 16 = 0) (hm : m1 < 16) (hsm : s + m1 < l.length) :
    Calls Try.prog 24 #[.string (kit.str (bm.dat l l.length)), .agg #[.int .i64 (l.getD s 0), .int .i64 ((bm.dat l s).length : Int)], .int .i64 ((m1 : Int) + 1)] w (ReadP l s (m1 + 1) w) := by
  have HR := Lib.hid hr
  have hr0 := hr s (by omega)
  obtain ⟨D, hD⟩ : ∃ D, D = kit.str (bm.dat l l.length) := ⟨_, rfl⟩
  have HDB : Hid (kit.bytes D = bm.dat l l.length) := by rw [hD]; exact kit.bytes_str _ (bm.dat_byte l _)
  have HDS : Hid (D.size ≤ 100000) := by show _ ≤ _; rw [hD, kit.str_size]; have := bm.dat_len hr; omega
  have HGET : Hid (∀ (q : Nat) (W : World), q < l.length → ¬ q % 16 = 0 → Calls Try.prog 28 #[.string D, .int .i64 ((bm.dat l q).length : Int)] W fun e w' => e = .returned (.tuple #[.int .i64 (bm.gap l q : Int), .int .i64 ((bm.dat l (q + 1)).length : Int), .int .i64 0]) ∧ W = w') := fun q W hq hm => by
    have h1 := get_any D ((bm.dat l q).length : Int) W HDS.out
    rw [HDB.out, bm.dat_get HR.out hq hm] at h1
    exact h1
  rw [← hD]
  obtain ⟨x0, hx0⟩ : ∃ x, x = l.getD s 0 := ⟨_, rfl⟩
  obtain ⟨a0, ha0⟩ : ∃ a, a = (bm.dat l s).length := ⟨_, rfl⟩
  rw [← hx0] at hr0
  rw [← hx0, ← ha0]
  have HX0 := Lib.hid hx0
  have HA0 := Lib.hid ha0
  obtain ⟨hr00, hr01, _⟩ := hr0
  have hsp : s < l.length := by omega
  have HT1 := Lib.hid (take_one hsp)
  obtain ⟨n, hn⟩ : ∃ n, n = l.length := ⟨_, rfl⟩
  have HN := Lib.hid hn
  rw [← hn] at hl hsm
  clear hr hD hx0 ha0 hn hsp
  go_enter Try.func24, Try.ntmps24
  go_wp2
  go_quiet (fail)
  go_wp2
  go_loopw [8, 9, 10, 11, 12, 13, 28] (fun u8 u9 v _ _ _ i wr => ∃ j : Nat, i = .int .i64 j ∧ j ≤ m1 ∧ u8 = .int .i64 (l.getD (s + j) 0) ∧ u9 = .int .i64 ((bm.dat l (s + j + 1)).length : Int) ∧ Hid (wr.ownsRow w.heap.size 3 1 v (j + 1) (i64s ((l.drop s).take (j + 1)))) ∧ Below w.heap.size w wr) (fun _ _ _ _ _ _ i _ => m1 - (intOf i).toNat)
  case atStart =>
    refine ⟨0, rfl, by omega, by rw [HX0.out]; rfl, by rw [HA0.out, Nat.add_zero, bm.dat_head hs], ?_, (lit_drew _ _ _ _ _).2⟩
    show World.ownsRow _ _ _ _ _ _ _
    rw [HT1.out, ← HX0.out]
    exact (lit_drew _ _ _ _ _).1
  case round =>
    obtain ⟨j, rfl, hj, rfl, rfl, HO, hbl⟩ := hrel
    by_cases hlt : j < m1
    · have hjI : (j : Int) < (m1 : Int) := by omega
      have hq : s + j + 1 < l.length := by rw [← HN.out]; omega
      have hqm : ¬ (s + j + 1) % 16 = 0 := by omega
      have HG := Lib.hid (fun W : World => HGET.out (s + j + 1) W hq hqm)
      have hgl := (bm.gap_le (bm.rise_le HR.out (by omega : s + j + 1 + 1 ≤ l.length)) (by omega)).2
      rw [Nat.add_sub_cancel] at hgl
      have hy0 := HR.out (s + j) (by omega)
      have hy1 := HR.out (s + j + 1) hq
      have HTM := Lib.hid (take_more (l := l) (s := s) (j := j + 1) (by omega))
      obtain ⟨x, hx⟩ : ∃ x, x = l.getD (s + j) 0 := ⟨_, rfl⟩
      obtain ⟨y, hy⟩ : ∃ y, y = l.getD (s + j + 1) 0 := ⟨_, rfl⟩
      obtain ⟨gp, hgp⟩ : ∃ g, g = bm.gap l (s + j + 1) := ⟨_, rfl⟩
      obtain ⟨a1, ha1⟩ : ∃ a, a = (bm.dat l (s + j + 1)).length := ⟨_, rfl⟩
      obtain ⟨a2, ha2⟩ : ∃ a, a = (bm.dat l (s + j + 1 + 1)).length := ⟨_, rfl⟩
      rw [← hx, ← hy, ← hgp] at hgl
      rw [← hx] at hy0
      rw [← hy] at hy1
      rw [← hgp, ← ha1, ← ha2] at HG
      rw [← hx, ← ha1]
      have HY := Lib.hid hy
      have HA2 := Lib.hid ha2
      have hyx : x + ((gp : Int) + 1) = y := by omega
      obtain ⟨hy00, hy01, _⟩ := hy0
      obtain ⟨hy10, hy11, _⟩ := hy1
      have hz := hbl.size
      clear hx hy hgp ha1 ha2 hgl
      go_wp2_with (first
        | (go_at_call 28; (with_reducible refine (HG.out _).mono ?_); rintro e w9 ⟨rfl, rfl⟩)
        | (at_builtin; refine kit.app1 (.tmp 44) (.tmp 46) 22 rfl rfl w.heap.size Try.underlying22 infoInt rfl (by decide) (by decide) HO.out rfl rfl rfl (by intro u hu; simp at hu; subst hu; rfl) (by omega) hz ?_))
      intro v' w5 hown' hb5
      have hbl5 := hbl.trans hb5
      have HO5 : Hid (w5.ownsRow w.heap.size 3 1 v' (j + 1 + 1) (i64s ((l.drop s).take (j + 1 + 1)))) := by
        show World.ownsRow _ _ _ _ _ _ _
        rw [HTM.out, i64s_app, show s + (j + 1) = s + j + 1 by omega, ← HY.out]; exact hown'
      clear hown'
      go_wp2
      go_roundw
      case rel => exact ⟨j + 1, by go_num, by omega, by rw [HY.out]; rfl, by rw [HA2.out]; rfl, HO5, hbl5⟩
      case measure => simp [intOf]; omega
    · obtain rfl : j = m1 := by omega
      go_wp2
      go_ret2
      exact ⟨_, rfl, HO.out, hbl⟩
end Go.Proofs.Ytniphmfkccaccaa
