/- For every input CursorCalls returns true and leaves its arguments as they were: what the program answers, whatever the cursor, is what the document's program answers. -/
import Derived.Test.YtojngbobecdpeaaCrBoth
import Derived.Test.YtojngbobecdpeaaCrSame
import Derived.Test.YtojngbobecdpeaaCurSize
import Derived.Test.YtojngbobecdpeaaArgsD
import Derived.Test.YtojngbobecdpeaaClose
namespace Go.Proofs.Ytojngbobecdpeaa
open Go Go.RowKit Go.ChangeShapes at_ pm cl
namespace Cur
theorem sz_pos (c : Cur) : 1 ≤ sz c := by cases c; rw [sz]; omega
theorem len_szs : ∀ ks : List Cur, ks.length ≤ szs ks
  | [] => by simp [szs]
  | c :: r => by rw [szs, List.length_cons]; have := len_szs r; have := sz_pos c; omega
theorem sz_mem : ∀ {ks : List Cur} {c : Cur}, c ∈ ks → sz c ≤ szs ks
  | [], c, h => by simp at h
  | a :: r, c, h => by
    rw [szs]
    rcases List.mem_cons.1 h with rfl | h
    · omega
    · have := sz_mem h; omega
theorem sz_sm : ∀ (n : Nat) (c : Cur), sz c ≤ n → n ≤ 100000 → sm c
  | 0, c, h, _ => by have := sz_pos c; omega
  | n + 1, mk k l a ks, h, hn => by
    rw [sz] at h
    have h1 := len_szs ks
    rw [sm_iff]
    exact ⟨by omega, by omega, fun c hc => sz_sm n c (by have := sz_mem hc; omega) (by omega)⟩
end Cur
set_option maxHeartbeats 51200000 in
set_option maxRecDepth 100000 in
theorem calls_any (e : Nat) (x : Cur) (c : List Value) (n : Int) (w : World) (h : curR e w w.heap.size c x) (hrg : x.rng) : Calls Try.prog 3 #[.agg c.toArray, .int .i64 n] w (Said true w) := by
  have HAW : Hid (∀ W, Calls Try.prog 9 #[] W (Said true W)) := awake_any
  have HW : Hid (∀ W, Below w.heap.size w W → curR e W W.heap.size c x) := fun W hW => curR_steady e _ _ _ _ _ _ h hW hW.size
  have HS : Hid (∀ W, Below w.heap.size w W → Calls Try.prog 8 #[.agg c.toArray, .int .i64 12] W (SzA x W)) := fun W hW => size_cu 12 e 12 x c W rfl (by omega) (HW.out W hW)
  have HN1 : Hid (∀ W, Below w.heap.size w W → Calls Try.prog 10 #[.agg c.toArray] W (LstA x.now W)) := fun W hW => now_any e x c W (HW.out W hW)
  have HN2 : Hid (∀ W, Below w.heap.size w W → Calls Try.prog 11 #[.agg c.toArray] W (LstA x.now W)) := fun W hW => rnow_cu e x c W (HW.out W hW)
  have HR1 : Hid (∀ W, Below w.heap.size w W → Calls Try.prog 12 #[.agg c.toArray] W (Said (x.right 8) W)) := fun W hW => cright_any e x c W (HW.out W hW)
  have HR2 : Hid (∀ W, Below w.heap.size w W → Calls Try.prog 13 #[.agg c.toArray] W (Said (x.right 8) W)) := fun W hW => rright_cu e x c W (HW.out W hW)
  have HK1 : Hid (∀ W, Below w.heap.size w W → Calls Try.prog 15 #[.agg c.toArray, .int .i64 n] W (CurAt e (x.seekT n) W)) := fun W hW => (seek_any e n x c W (HW.out W hW)).mono (fun e' w' hh => by
    unfold SeekP at hh
    unfold Cur.seekT
    split at hh
    · rename_i hr
      rw [if_pos hr]; exact hh.at
    · rename_i hr
      rw [if_neg hr]
      exact ⟨c, hh.1, HW.out w' (hW.trans (hh.2.mono hW.size)), hh.2⟩)
  have HT1 : Hid (∀ W, Below w.heap.size w W → Calls Try.prog 17 #[.agg c.toArray] W (CurAt e x.stepT W)) := fun W hW => (step_any e x c W (HW.out W hW)).mono (fun e' w' hh => by
    unfold StepP at hh
    unfold Cur.stepT
    cases hn : x.now with
    | none =>
      rw [hn] at hh
      exact ⟨c, hh.1, HW.out w' (hW.trans (hh.2.mono hW.size)), hh.2⟩
    | some y =>
      rw [hn] at hh
      exact CurA.at hh)
  have HA1 : Hid (∀ W, Below w.heap.size w W → Calls Try.prog 20 #[.agg c.toArray] W (Owned x.allN W)) := fun W hW => all_cu e x c W (HW.out W hW)
  have HA2 : Hid (∀ W, Below w.heap.size w W → Calls Try.prog 21 #[.agg c.toArray] W (Owned x.allN W)) := fun W hW => rall_cu e x c W (HW.out W hW)
  have hfw : x.fwd (-9223372036854775808) = x := Cur.fwd_low e x hrg ⟨w, _, c, h⟩
  have hmem : ∀ {p : Cur → Prop}, p x → ∀ c ∈ [x], p c := fun hp c hc => by rw [List.mem_singleton.1 hc]; exact hp
  have HK2 : Hid (x.sm → ∀ W, Below w.heap.size w W → Calls Try.prog 16 #[.agg c.toArray, .int .i64 n] W (CurAt e (x.seekT n) W)) := fun hs W hW => rseek_cu e n x c W (HW.out W hW) hs
  have HT2 : Hid (x.sm → ∀ W, Below w.heap.size w W → Calls Try.prog 18 #[.agg c.toArray] W (CurAt e x.stepT W)) := fun hs W hW => rstep_cu e x c W (HW.out W hW) hs
  have HB1 : Hid (x.sm → ∀ W v, RowsAt 4 (curR e) W W.heap.size v [x] → Below w.heap.size w W → Calls Try.prog 22 #[v] W (CurAt (e + 1) (.mk 2 [] 0 [x]) W)) := fun hs W v hv _ => (cboth_any e [x] v W hv (hmem hs) (by simp)).mono (fun e' w' hh => by
    have := CurA.at hh
    rw [List.map_singleton, hfw] at this
    exact this)
  have HB2 : Hid (x.sm → ∀ W v, RowsAt 4 (curR e) W W.heap.size v [x] → Below w.heap.size w W → Calls Try.prog 23 #[v] W (CurAt (e + 1) (.mk 2 [] 0 [x]) W)) := fun hs W v hv _ => rboth_cu e [x] v W hv (hmem hs) (by simp)
  have HM1 : Hid (x.sm → ∀ W v, RowsAt 4 (curR e) W W.heap.size v [x] → Below w.heap.size w W → Calls Try.prog 24 #[.agg c.toArray, v] W (CurAt (e + 1) (.mk 4 [] 0 [x, x]) W)) := fun hs W v hv hW => (cminus_any e x c [x] v W (HW.out W hW) hs hv (hmem hs) (by simp)).mono (fun e' w' hh => by
    have := CurA.at hh
    rw [List.map_cons, List.map_singleton, hfw] at this
    exact this)
  have HM2 : Hid (x.sm → ∀ W v, RowsAt 4 (curR e) W W.heap.size v [x] → Below w.heap.size w W → Calls Try.prog 25 #[.agg c.toArray, v] W (CurAt (e + 1) (.mk 4 [] 0 [x, x]) W)) := fun hs W v hv hW => rminus_cu e x c [x] v W (HW.out W hW) hs hv (hmem hs) (by simp)
  obtain ⟨s, hs⟩ : ∃ s, s = x.now := ⟨_, rfl⟩
  obtain ⟨r, hr⟩ : ∃ r, r = x.right 8 := ⟨_, rfl⟩
  rw [← hs] at HN1 HN2
  rw [← hr] at HR1 HR2
  obtain ⟨lo, ln, lc, ko, kn, kc, rfl⟩ := cur_form h
  obtain ⟨W2, hW2⟩ : ∃ W, W = w.alloc (.cells #[.int .i64 x.k, .slice lo ln lc, .int .i64 x.a, .slice ko kn kc] 25) := ⟨_, rfl⟩
  obtain ⟨q0, hq0⟩ : ∃ q, q = w.heap.size := ⟨_, rfl⟩
  have b2 : Below w.heap.size w W2 := by rw [hW2]; exact below1
  have x2 : W2.heap[q0]? = some (.cells #[.int .i64 x.k, .slice lo ln lc, .int .i64 x.a, .slice ko kn kc] 25) := by rw [hW2, hq0]; exact heap_alloc_new _ _
  have HC := Lib.hid (HS.out _ b2)
  have HW2 := Lib.hid hW2
  have HQ0 := Lib.hid hq0
  have B2 := Lib.hid b2
  have X2 := Lib.hid x2
  clear h b2 hW2 hq0 x2 HS hs hr hfw hmem hrg
  go_enter Try.func3, Try.ntmps3
  go_wp2_with fail
  rw [← HW2.out, ← HQ0.out]
  (with_reducible refine HC.out.mono ?_)
  rintro e3 w3 ⟨z, b, rfl, hz0, hz1, hzs, b3⟩
  have B3 := Lib.hid (B2.out.trans (b3.mono B2.out.size))
  have X3 := Lib.hid ((b3.block _ (lt_of_block X2.out)).trans X2.out)
  have HZ := Lib.hid hzs
  have c0 := boxc X3.out 0 _ rfl
  have c1 := boxc X3.out 1 _ rfl
  have c2 := boxc X3.out 2 _ rfl
  have c3 := boxc X3.out 3 _ rfl
  clear b3 hzs HC X2 HW2 B2
  cases b with
  | false =>
    go_wp2_with fail
    (with_reducible refine (HAW.out _).mono ?_)
    rintro ea wa ⟨rfl, ba⟩
    go_wp2
    go_ret
    exact ⟨rfl, B3.out.trans (ba.mono B3.out.size)⟩
  | true =>
    have hsm : x.sm := Cur.sz_sm 1500 x (by have := HZ.out (by first | rfl | trivial); omega) (by omega)
    replace HK2 := Lib.hid (HK2.out hsm)
    replace HT2 := Lib.hid (HT2.out hsm)
    replace HB1 := Lib.hid (HB1.out hsm)
    replace HB2 := Lib.hid (HB2.out hsm)
    replace HM1 := Lib.hid (HM1.out hsm)
    replace HM2 := Lib.hid (HM2.out hsm)
    clear hsm HZ
    go_wp2_with fail
    (with_reducible refine (HN1.out _ B3.out).mono ?_)
    rintro e4 w4 ⟨rfl, b4⟩
    have B4 := Lib.hid (B3.out.trans (b4.mono B3.out.size))
    have X4 := Lib.hid ((b4.block _ (lt_of_block X3.out)).trans X3.out)
    clear b4 c0 c1 c2 c3
    have c0 := boxc X4.out 0 _ rfl
    have c1 := boxc X4.out 1 _ rfl
    have c2 := boxc X4.out 2 _ rfl
    have c3 := boxc X4.out 3 _ rfl
    go_wp2_with fail
    (with_reducible refine (HN2.out _ B4.out).mono ?_)
    rintro e5 WB ⟨rfl, b5⟩
    have BB := Lib.hid (B4.out.trans (b5.mono B4.out.size))
    have XB := Lib.hid ((b5.block _ (lt_of_block X4.out)).trans X4.out)
    clear b5 c0 c1 c2 c3 B3 B4 X3 X4
    have HXW : Hid (∀ W, Below WB.heap.size WB W → curR e W W.heap.size [.int .i64 x.k, .slice lo ln lc, .int .i64 x.a, .slice ko kn kc] x) := fun W hW => HW.out W (BB.out.trans (hW.mono BB.out.size))
    replace HR1 := Lib.hid (fun W (hW : Below WB.heap.size WB W) => HR1.out W (BB.out.trans (hW.mono BB.out.size)))
    replace HR2 := Lib.hid (fun W (hW : Below WB.heap.size WB W) => HR2.out W (BB.out.trans (hW.mono BB.out.size)))
    replace HK1 := Lib.hid (fun W (hW : Below WB.heap.size WB W) => HK1.out W (BB.out.trans (hW.mono BB.out.size)))
    replace HK2 := Lib.hid (fun W (hW : Below WB.heap.size WB W) => HK2.out W (BB.out.trans (hW.mono BB.out.size)))
    replace HT1 := Lib.hid (fun W (hW : Below WB.heap.size WB W) => HT1.out W (BB.out.trans (hW.mono BB.out.size)))
    replace HT2 := Lib.hid (fun W (hW : Below WB.heap.size WB W) => HT2.out W (BB.out.trans (hW.mono BB.out.size)))
    replace HA1 := Lib.hid (fun W (hW : Below WB.heap.size WB W) => HA1.out W (BB.out.trans (hW.mono BB.out.size)))
    replace HA2 := Lib.hid (fun W (hW : Below WB.heap.size WB W) => HA2.out W (BB.out.trans (hW.mono BB.out.size)))
    replace HB1 := Lib.hid (fun W v (hv : RowsAt 4 (curR e) W W.heap.size v [x]) (hW : Below WB.heap.size WB W) => HB1.out W v hv (BB.out.trans (hW.mono BB.out.size)))
    replace HB2 := Lib.hid (fun W v (hv : RowsAt 4 (curR e) W W.heap.size v [x]) (hW : Below WB.heap.size WB W) => HB2.out W v hv (BB.out.trans (hW.mono BB.out.size)))
    replace HM1 := Lib.hid (fun W v (hv : RowsAt 4 (curR e) W W.heap.size v [x]) (hW : Below WB.heap.size WB W) => HM1.out W v hv (BB.out.trans (hW.mono BB.out.size)))
    replace HM2 := Lib.hid (fun W v (hv : RowsAt 4 (curR e) W W.heap.size v [x]) (hW : Below WB.heap.size WB W) => HM2.out W v hv (BB.out.trans (hW.mono BB.out.size)))
    clear HW HN1 HN2
    go_wp2
    refine wp_flow 62 (fun _ => 1000) (fun ww => RowKit.Below WB.heap.size WB ww) (fun _ w w' => (fun (w w' : World) => RowKit.Below w.heap.size w w') w w') (fun kF vF wF => match kF with | 0 => (vF = .int .i64 (s.getD 0)) | 1 => (vF = .int .i64 (s.getD 0)) | 2 => (vF = .bool true) | 3 => (vF = .bool true) | 4 => (vF = .bool s.isSome) | 5 => (vF = .bool s.isSome) | 6 => (vF = .bool true) | 7 => (vF = .bool true) | 8 => (vF = .bool true) | 9 => (vF = .agg #[.int .i64 x.k, .slice lo ln lc, .int .i64 x.a, .slice ko kn kc]) | 10 => (vF = .bool r) | 11 => (vF = .agg #[.int .i64 x.k, .slice lo ln lc, .int .i64 x.a, .slice ko kn kc]) | 12 => (vF = .bool r) | 13 => (vF = .bool true) | 14 => (vF = .bool true) | 15 => (vF = .bool true) | 16 => (vF = .agg #[.int .i64 x.k, .slice lo ln lc, .int .i64 x.a, .slice ko kn kc]) | 17 => (vF = .int .i64 n) | 18 => (∃ c, vF = .agg (List.toArray c) ∧ curR (e) wF wF.heap.size c (x.seekT n)) | 19 => (vF = .agg #[.int .i64 x.k, .slice lo ln lc, .int .i64 x.a, .slice ko kn kc]) | 20 => (vF = .int .i64 n) | 21 => (∃ c, vF = .agg (List.toArray c) ∧ curR (e) wF wF.heap.size c (x.seekT n)) | 22 => (vF = .bool true) | 23 => (vF = .bool true) | 24 => (vF = .bool true) | 25 => (vF = .agg #[.int .i64 x.k, .slice lo ln lc, .int .i64 x.a, .slice ko kn kc]) | 26 => (∃ c, vF = .agg (List.toArray c) ∧ curR (e) wF wF.heap.size c (x.stepT)) | 27 => (vF = .agg #[.int .i64 x.k, .slice lo ln lc, .int .i64 x.a, .slice ko kn kc]) | 28 => (∃ c, vF = .agg (List.toArray c) ∧ curR (e) wF wF.heap.size c (x.stepT)) | 29 => (vF = .bool true) | 30 => (vF = .bool true) | 31 => (vF = .bool true) | 32 => (vF = .agg #[.int .i64 x.k, .slice lo ln lc, .int .i64 x.a, .slice ko kn kc]) | 33 => (At wF wF.heap.size vF x.allN) | 34 => (vF = .agg #[.int .i64 x.k, .slice lo ln lc, .int .i64 x.a, .slice ko kn kc]) | 35 => (At wF wF.heap.size vF x.allN) | 36 => (vF = .bool true) | 37 => (vF = .bool true) | 38 => (vF = .bool true) | 39 => (vF = .agg #[.int .i64 x.k, .slice lo ln lc, .int .i64 x.a, .slice ko kn kc]) | 40 => (∃ g, vF = .slice (some ⟨g, 0, none⟩) 1 1 ∧ RowsAt 4 (curR e) wF wF.heap.size (.slice (some ⟨g, 0, none⟩) 1 1) [x]) | 41 => (∃ c, vF = .agg (List.toArray c) ∧ curR (e + 1) wF wF.heap.size c (.mk 2 [] 0 [x])) | 42 => (vF = .agg #[.int .i64 x.k, .slice lo ln lc, .int .i64 x.a, .slice ko kn kc]) | 43 => (∃ g, vF = .slice (some ⟨g, 0, none⟩) 1 1 ∧ RowsAt 4 (curR e) wF wF.heap.size (.slice (some ⟨g, 0, none⟩) 1 1) [x]) | 44 => (∃ c, vF = .agg (List.toArray c) ∧ curR (e + 1) wF wF.heap.size c (.mk 2 [] 0 [x])) | 45 => (vF = .bool true) | 46 => (vF = .bool true) | 47 => (vF = .bool true) | 48 => (vF = .agg #[.int .i64 x.k, .slice lo ln lc, .int .i64 x.a, .slice ko kn kc]) | 49 => (vF = .agg #[.int .i64 x.k, .slice lo ln lc, .int .i64 x.a, .slice ko kn kc]) | 50 => (∃ g, vF = .slice (some ⟨g, 0, none⟩) 1 1 ∧ RowsAt 4 (curR e) wF wF.heap.size (.slice (some ⟨g, 0, none⟩) 1 1) [x]) | 51 => (∃ c, vF = .agg (List.toArray c) ∧ curR (e + 1) wF wF.heap.size c (.mk 4 [] 0 [x, x])) | 52 => (vF = .agg #[.int .i64 x.k, .slice lo ln lc, .int .i64 x.a, .slice ko kn kc]) | 53 => (vF = .agg #[.int .i64 x.k, .slice lo ln lc, .int .i64 x.a, .slice ko kn kc]) | 54 => (∃ g, vF = .slice (some ⟨g, 0, none⟩) 1 1 ∧ RowsAt 4 (curR e) wF wF.heap.size (.slice (some ⟨g, 0, none⟩) 1 1) [x]) | 55 => (∃ c, vF = .agg (List.toArray c) ∧ curR (e + 1) wF wF.heap.size c (.mk 4 [] 0 [x, x])) | 56 => (vF = .bool true) | 57 => (vF = .bool true) | 58 => (vF = .bool true) | 59 => (vF = .bool true) | 60 => (vF = .bool true) | 61 => (vF = .bool true) | _ => True) (fun _ _ _ _ => True) (by kernel_rfl) (by kernel_rfl) ?_ ?_ ?_ ?_ ?_
    · exact (Below.refl _ _).drew
    · intro iF wF1 wF2 hR hT; exact hR.trans (hT.mono hR.size)
    · intro kF hkF iF hiF hne hdd hanc hdan vF wF1 wF2 h hT
      rcases (by omega : kF = 0 ∨ kF = 1 ∨ kF = 2 ∨ kF = 3 ∨ kF = 4 ∨ kF = 5 ∨ kF = 6 ∨ kF = 7 ∨ kF = 8 ∨ kF = 9 ∨ kF = 10 ∨ kF = 11 ∨ kF = 12 ∨ kF = 13 ∨ kF = 14 ∨ kF = 15 ∨ kF = 16 ∨ kF = 17 ∨ kF = 18 ∨ kF = 19 ∨ kF = 20 ∨ kF = 21 ∨ kF = 22 ∨ kF = 23 ∨ kF = 24 ∨ kF = 25 ∨ kF = 26 ∨ kF = 27 ∨ kF = 28 ∨ kF = 29 ∨ kF = 30 ∨ kF = 31 ∨ kF = 32 ∨ kF = 33 ∨ kF = 34 ∨ kF = 35 ∨ kF = 36 ∨ kF = 37 ∨ kF = 38 ∨ kF = 39 ∨ kF = 40 ∨ kF = 41 ∨ kF = 42 ∨ kF = 43 ∨ kF = 44 ∨ kF = 45 ∨ kF = 46 ∨ kF = 47 ∨ kF = 48 ∨ kF = 49 ∨ kF = 50 ∨ kF = 51 ∨ kF = 52 ∨ kF = 53 ∨ kF = 54 ∨ kF = 55 ∨ kF = 56 ∨ kF = 57 ∨ kF = 58 ∨ kF = 59 ∨ kF = 60 ∨ kF = 61) with rfl | rfl | rfl | rfl | rfl | rfl | rfl | rfl | rfl | rfl | rfl | rfl | rfl | rfl | rfl | rfl | rfl | rfl | rfl | rfl | rfl | rfl | rfl | rfl | rfl | rfl | rfl | rfl | rfl | rfl | rfl | rfl | rfl | rfl | rfl | rfl | rfl | rfl | rfl | rfl | rfl | rfl | rfl | rfl | rfl | rfl | rfl | rfl | rfl | rfl | rfl | rfl | rfl | rfl | rfl | rfl | rfl | rfl | rfl | rfl | rfl | rfl
      · exact h
      · exact h
      · exact h
      · exact h
      · exact h
      · exact h
      · exact h
      · exact h
      · exact h
      · exact h
      · exact h
      · exact h
      · exact h
      · exact h
      · exact h
      · exact h
      · exact h
      · exact h
      · have h : (∃ c, vF = .agg (List.toArray c) ∧ curR (e) wF1 wF1.heap.size c (x.seekT n)) := h
        show (∃ c, vF = .agg (List.toArray c) ∧ curR (e) wF2 wF2.heap.size c (x.seekT n))
        have hT : (fun (w w' : World) => RowKit.Below w.heap.size w w') wF1 wF2 := hT
        simp only at hT
        obtain ⟨c, e, h1⟩ := h
        exact ⟨c, e, curR_steady _ _ _ _ _ _ _ h1 hT hT.size⟩
      · exact h
      · exact h
      · have h : (∃ c, vF = .agg (List.toArray c) ∧ curR (e) wF1 wF1.heap.size c (x.seekT n)) := h
        show (∃ c, vF = .agg (List.toArray c) ∧ curR (e) wF2 wF2.heap.size c (x.seekT n))
        have hT : (fun (w w' : World) => RowKit.Below w.heap.size w w') wF1 wF2 := hT
        simp only at hT
        obtain ⟨c, e, h1⟩ := h
        exact ⟨c, e, curR_steady _ _ _ _ _ _ _ h1 hT hT.size⟩
      · exact h
      · exact h
      · exact h
      · exact h
      · have h : (∃ c, vF = .agg (List.toArray c) ∧ curR (e) wF1 wF1.heap.size c (x.stepT)) := h
        show (∃ c, vF = .agg (List.toArray c) ∧ curR (e) wF2 wF2.heap.size c (x.stepT))
        have hT : (fun (w w' : World) => RowKit.Below w.heap.size w w') wF1 wF2 := hT
        simp only at hT
        obtain ⟨c, e, h1⟩ := h
        exact ⟨c, e, curR_steady _ _ _ _ _ _ _ h1 hT hT.size⟩
      · exact h
      · have h : (∃ c, vF = .agg (List.toArray c) ∧ curR (e) wF1 wF1.heap.size c (x.stepT)) := h
        show (∃ c, vF = .agg (List.toArray c) ∧ curR (e) wF2 wF2.heap.size c (x.stepT))
        have hT : (fun (w w' : World) => RowKit.Below w.heap.size w w') wF1 wF2 := hT
        simp only at hT
        obtain ⟨c, e, h1⟩ := h
        exact ⟨c, e, curR_steady _ _ _ _ _ _ _ h1 hT hT.size⟩
      · exact h
      · exact h
      · exact h
      · exact h
      · have h : (At wF1 wF1.heap.size vF x.allN) := h
        show (At wF2 wF2.heap.size vF x.allN)
        have hT : (fun (w w' : World) => RowKit.Below w.heap.size w w') wF1 wF2 := hT
        simp only at hT
        exact (h.below hT).mono hT.size
      · exact h
      · have h : (At wF1 wF1.heap.size vF x.allN) := h
        show (At wF2 wF2.heap.size vF x.allN)
        have hT : (fun (w w' : World) => RowKit.Below w.heap.size w w') wF1 wF2 := hT
        simp only at hT
        exact (h.below hT).mono hT.size
      · exact h
      · exact h
      · exact h
      · exact h
      · have h : (∃ g, vF = .slice (some ⟨g, 0, none⟩) 1 1 ∧ RowsAt 4 (curR e) wF1 wF1.heap.size (.slice (some ⟨g, 0, none⟩) 1 1) [x]) := h
        show (∃ g, vF = .slice (some ⟨g, 0, none⟩) 1 1 ∧ RowsAt 4 (curR e) wF2 wF2.heap.size (.slice (some ⟨g, 0, none⟩) 1 1) [x])
        have hT : (fun (w w' : World) => RowKit.Below w.heap.size w w') wF1 wF2 := hT
        simp only at hT
        obtain ⟨g, e, h1⟩ := h
        exact ⟨g, e, RowsAt.next (curR_steady _) h1 hT⟩
      · have h : (∃ c, vF = .agg (List.toArray c) ∧ curR (e + 1) wF1 wF1.heap.size c (.mk 2 [] 0 [x])) := h
        show (∃ c, vF = .agg (List.toArray c) ∧ curR (e + 1) wF2 wF2.heap.size c (.mk 2 [] 0 [x]))
        have hT : (fun (w w' : World) => RowKit.Below w.heap.size w w') wF1 wF2 := hT
        simp only at hT
        obtain ⟨c, e, h1⟩ := h
        exact ⟨c, e, curR_steady _ _ _ _ _ _ _ h1 hT hT.size⟩
      · exact h
      · have h : (∃ g, vF = .slice (some ⟨g, 0, none⟩) 1 1 ∧ RowsAt 4 (curR e) wF1 wF1.heap.size (.slice (some ⟨g, 0, none⟩) 1 1) [x]) := h
        show (∃ g, vF = .slice (some ⟨g, 0, none⟩) 1 1 ∧ RowsAt 4 (curR e) wF2 wF2.heap.size (.slice (some ⟨g, 0, none⟩) 1 1) [x])
        have hT : (fun (w w' : World) => RowKit.Below w.heap.size w w') wF1 wF2 := hT
        simp only at hT
        obtain ⟨g, e, h1⟩ := h
        exact ⟨g, e, RowsAt.next (curR_steady _) h1 hT⟩
      · have h : (∃ c, vF = .agg (List.toArray c) ∧ curR (e + 1) wF1 wF1.heap.size c (.mk 2 [] 0 [x])) := h
        show (∃ c, vF = .agg (List.toArray c) ∧ curR (e + 1) wF2 wF2.heap.size c (.mk 2 [] 0 [x]))
        have hT : (fun (w w' : World) => RowKit.Below w.heap.size w w') wF1 wF2 := hT
        simp only at hT
        obtain ⟨c, e, h1⟩ := h
        exact ⟨c, e, curR_steady _ _ _ _ _ _ _ h1 hT hT.size⟩
      · exact h
      · exact h
      · exact h
      · exact h
      · exact h
      · have h : (∃ g, vF = .slice (some ⟨g, 0, none⟩) 1 1 ∧ RowsAt 4 (curR e) wF1 wF1.heap.size (.slice (some ⟨g, 0, none⟩) 1 1) [x]) := h
        show (∃ g, vF = .slice (some ⟨g, 0, none⟩) 1 1 ∧ RowsAt 4 (curR e) wF2 wF2.heap.size (.slice (some ⟨g, 0, none⟩) 1 1) [x])
        have hT : (fun (w w' : World) => RowKit.Below w.heap.size w w') wF1 wF2 := hT
        simp only at hT
        obtain ⟨g, e, h1⟩ := h
        exact ⟨g, e, RowsAt.next (curR_steady _) h1 hT⟩
      · have h : (∃ c, vF = .agg (List.toArray c) ∧ curR (e + 1) wF1 wF1.heap.size c (.mk 4 [] 0 [x, x])) := h
        show (∃ c, vF = .agg (List.toArray c) ∧ curR (e + 1) wF2 wF2.heap.size c (.mk 4 [] 0 [x, x]))
        have hT : (fun (w w' : World) => RowKit.Below w.heap.size w w') wF1 wF2 := hT
        simp only at hT
        obtain ⟨c, e, h1⟩ := h
        exact ⟨c, e, curR_steady _ _ _ _ _ _ _ h1 hT hT.size⟩
      · exact h
      · exact h
      · have h : (∃ g, vF = .slice (some ⟨g, 0, none⟩) 1 1 ∧ RowsAt 4 (curR e) wF1 wF1.heap.size (.slice (some ⟨g, 0, none⟩) 1 1) [x]) := h
        show (∃ g, vF = .slice (some ⟨g, 0, none⟩) 1 1 ∧ RowsAt 4 (curR e) wF2 wF2.heap.size (.slice (some ⟨g, 0, none⟩) 1 1) [x])
        have hT : (fun (w w' : World) => RowKit.Below w.heap.size w w') wF1 wF2 := hT
        simp only at hT
        obtain ⟨g, e, h1⟩ := h
        exact ⟨g, e, RowsAt.next (curR_steady _) h1 hT⟩
      · have h : (∃ c, vF = .agg (List.toArray c) ∧ curR (e + 1) wF1 wF1.heap.size c (.mk 4 [] 0 [x, x])) := h
        show (∃ c, vF = .agg (List.toArray c) ∧ curR (e + 1) wF2 wF2.heap.size c (.mk 4 [] 0 [x, x]))
        have hT : (fun (w w' : World) => RowKit.Below w.heap.size w w') wF1 wF2 := hT
        simp only at hT
        obtain ⟨c, e, h1⟩ := h
        exact ⟨c, e, curR_steady _ _ _ _ _ _ _ h1 hT hT.size⟩
      · exact h
      · exact h
      · exact h
      · exact h
      · exact h
      · exact h
    · generalize hAF : fillOf _ _ _ = AF
      replace hAF := fun x => congrFun hAF x
      simp only [List.take_succ_cons, List.take_zero, fillOf, Act.put, List.setIfInBounds_toArray, List.set_cons_zero, List.set_cons_succ, Nat.reduceAdd, Nat.zero_add] at hAF
      refine FlowAll.cons ?_ ?_
      · intro xF wx hR hd K hK
        clear hd
        simp only [← hAF, Act.put, List.setIfInBounds_toArray, List.set_cons_zero, List.set_cons_succ] at hK ⊢
        clear hAF
        try simp only [Nat.zero_add] at hK ⊢
        try simp only [Nat.reduceAdd] at hK ⊢
        obtain hbR := id hR
        rw [if_pos (by rfl)]
        go_simp
        exact hK.out _ _ (Below.refl _ _) (rfl) (fun _ _ _ => ⟨trivial, trivial⟩)
      refine FlowAll.cons ?_ ?_
      · intro xF wx hR hd K hK
        clear hd
        simp only [← hAF, Act.put, List.setIfInBounds_toArray, List.set_cons_zero, List.set_cons_succ] at hK ⊢
        clear hAF
        try simp only [Nat.zero_add] at hK ⊢
        try simp only [Nat.reduceAdd] at hK ⊢
        obtain hbR := id hR
        rw [if_pos (by rfl)]
        go_simp
        exact hK.out _ _ (Below.refl _ _) (rfl) (fun _ _ _ => ⟨trivial, trivial⟩)
      refine FlowAll.cons ?_ ?_
      · intro xF wx hR hd K hK
        have dd0 : ((xF 0) = .int .i64 (s.getD 0)) := hd 0 (by kernel_rfl)
        have dd1 : ((xF 1) = .int .i64 (s.getD 0)) := hd 1 (by kernel_rfl)
        clear hd
        simp only [← hAF, Act.put, List.setIfInBounds_toArray, List.set_cons_zero, List.set_cons_succ] at hK ⊢
        clear hAF
        try simp only [Nat.zero_add] at hK ⊢
        try simp only [Nat.reduceAdd] at hK ⊢
        try generalize xF 0 = yy0 at *
        try generalize xF 1 = yy1 at *
        obtain rfl := dd0
        obtain rfl := dd1
        obtain hbR := id hR
        rw [if_pos (by rfl)]
        go_simp
        exact hK.out _ _ (Below.refl _ _) (rfl) (fun _ _ _ => ⟨trivial, trivial⟩)
      refine FlowAll.cons ?_ ?_
      · intro xF wx hR hd K hK
        have dd2 : ((xF 2) = .bool true) := hd 2 (by kernel_rfl)
        clear hd
        simp only [← hAF, Act.put, List.setIfInBounds_toArray, List.set_cons_zero, List.set_cons_succ] at hK ⊢
        clear hAF
        try simp only [Nat.zero_add] at hK ⊢
        try simp only [Nat.reduceAdd] at hK ⊢
        try generalize xF 2 = yy2 at *
        obtain rfl := dd2
        obtain hbR := id hR
        rw [if_pos (by rfl)]
        go_simp
        exact hK.out _ _ (Below.refl _ _) (rfl) (fun _ _ _ => ⟨trivial, trivial⟩)
      refine FlowAll.cons ?_ ?_
      · intro xF wx hR hd K hK
        have dd3 : ((xF 3) = .bool true) := hd 3 (by kernel_rfl)
        clear hd
        simp only [← hAF, Act.put, List.setIfInBounds_toArray, List.set_cons_zero, List.set_cons_succ] at hK ⊢
        clear hAF
        try simp only [Nat.zero_add] at hK ⊢
        try simp only [Nat.reduceAdd] at hK ⊢
        try generalize xF 3 = yy3 at *
        obtain rfl := dd3
        obtain hbR := id hR
        rw [if_pos (by rfl)]
        go_simp
        exact hK.out _ _ (Below.refl _ _) (rfl) (fun _ _ _ => ⟨trivial, trivial⟩)
      refine FlowAll.cons ?_ ?_
      · intro xF wx hR hd K hK
        have dd3 : ((xF 3) = .bool true) := hd 3 (by kernel_rfl)
        clear hd
        simp only [← hAF, Act.put, List.setIfInBounds_toArray, List.set_cons_zero, List.set_cons_succ] at hK ⊢
        clear hAF
        try simp only [Nat.zero_add] at hK ⊢
        try simp only [Nat.reduceAdd] at hK ⊢
        try generalize xF 3 = yy3 at *
        obtain rfl := dd3
        obtain hbR := id hR
        rw [if_pos (by rfl)]
        go_simp
        exact hK.out _ _ (Below.refl _ _) (rfl) (fun _ _ _ => ⟨trivial, trivial⟩)
      refine FlowAll.cons ?_ ?_
      · intro xF wx hR hd K hK
        have dd3 : ((xF 3) = .bool true) := hd 3 (by kernel_rfl)
        have dd4 : ((xF 4) = .bool s.isSome) := hd 4 (by kernel_rfl)
        have dd5 : ((xF 5) = .bool s.isSome) := hd 5 (by kernel_rfl)
        clear hd
        simp only [← hAF, Act.put, List.setIfInBounds_toArray, List.set_cons_zero, List.set_cons_succ] at hK ⊢
        clear hAF
        try simp only [Nat.zero_add] at hK ⊢
        try simp only [Nat.reduceAdd] at hK ⊢
        try generalize xF 3 = yy3 at *
        try generalize xF 4 = yy4 at *
        try generalize xF 5 = yy5 at *
        obtain rfl := dd3
        obtain rfl := dd4
        obtain rfl := dd5
        obtain hbR := id hR
        rw [if_pos (by rfl)]
        go_simp
        exact hK.out _ _ (Below.refl _ _) (rfl) (fun _ _ _ => ⟨trivial, trivial⟩)
      refine FlowAll.cons ?_ ?_
      · intro xF wx hR hd K hK
        have dd3 : ((xF 3) = .bool true) := hd 3 (by kernel_rfl)
        have dd6 : ((xF 6) = .bool true) := hd 6 (by kernel_rfl)
        clear hd
        simp only [← hAF, Act.put, List.setIfInBounds_toArray, List.set_cons_zero, List.set_cons_succ] at hK ⊢
        clear hAF
        try simp only [Nat.zero_add] at hK ⊢
        try simp only [Nat.reduceAdd] at hK ⊢
        try generalize xF 3 = yy3 at *
        try generalize xF 6 = yy6 at *
        obtain rfl := dd3
        obtain rfl := dd6
        obtain hbR := id hR
        rw [if_pos (by rfl)]
        go_simp
        exact hK.out _ _ (Below.refl _ _) (rfl) (fun _ _ _ => ⟨trivial, trivial⟩)
      refine FlowAll.cons ?_ ?_
      · intro xF wx hR hd K hK
        have dd7 : ((xF 7) = .bool true) := hd 7 (by kernel_rfl)
        clear hd
        simp only [← hAF, Act.put, List.setIfInBounds_toArray, List.set_cons_zero, List.set_cons_succ] at hK ⊢
        clear hAF
        try simp only [Nat.zero_add] at hK ⊢
        try simp only [Nat.reduceAdd] at hK ⊢
        try generalize xF 7 = yy7 at *
        obtain rfl := dd7
        obtain hbR := id hR
        rw [if_pos (by rfl)]
        go_simp
        exact hK.out _ _ (Below.refl _ _) (rfl) (fun _ _ _ => ⟨trivial, trivial⟩)
      refine FlowAll.cons ?_ ?_
      · intro xF wx hR hd K hK
        have dd8 : ((xF 8) = .bool true) := hd 8 (by kernel_rfl)
        clear hd
        simp only [← hAF, Act.put, List.setIfInBounds_toArray, List.set_cons_zero, List.set_cons_succ] at hK ⊢
        clear hAF
        try simp only [Nat.zero_add] at hK ⊢
        try simp only [Nat.reduceAdd] at hK ⊢
        try generalize xF 8 = yy8 at *
        obtain rfl := dd8
        obtain hbR := id hR
        have hxa := (hbR.block _ (lt_of_block XB.out)).trans XB.out
        have z0 := boxc hxa 0 _ rfl
        have z1 := boxc hxa 1 _ rfl
        have z2 := boxc hxa 2 _ rfl
        have z3 := boxc hxa 3 _ rfl
        clear hxa
        rw [if_pos (by rfl)]
        go_simp
        exact hK.out _ _ (Below.refl _ _) (rfl) (fun _ _ _ => ⟨trivial, trivial⟩)
      refine FlowAll.cons ?_ ?_
      · intro xF wx hR hd K hK
        have dd8 : ((xF 8) = .bool true) := hd 8 (by kernel_rfl)
        have dd9 : ((xF 9) = .agg #[.int .i64 x.k, .slice lo ln lc, .int .i64 x.a, .slice ko kn kc]) := hd 9 (by kernel_rfl)
        clear hd
        simp only [← hAF, Act.put, List.setIfInBounds_toArray, List.set_cons_zero, List.set_cons_succ] at hK ⊢
        clear hAF
        try simp only [Nat.zero_add] at hK ⊢
        try simp only [Nat.reduceAdd] at hK ⊢
        try generalize xF 8 = yy8 at *
        try generalize xF 9 = yy9 at *
        obtain rfl := dd8
        obtain rfl := dd9
        obtain hbR := id hR
        rw [if_pos (by rfl)]
        go_simp
        (go_at_call 12; (with_reducible refine (HR1.out _ hbR).mono ?_); rintro eK wK ⟨rfl, hbK⟩)
        try go_wp2_with fail
        exact hK.out _ _ (hbK) (rfl) (fun _ _ _ => ⟨trivial, trivial⟩)
      refine FlowAll.cons ?_ ?_
      · intro xF wx hR hd K hK
        have dd8 : ((xF 8) = .bool true) := hd 8 (by kernel_rfl)
        clear hd
        simp only [← hAF, Act.put, List.setIfInBounds_toArray, List.set_cons_zero, List.set_cons_succ] at hK ⊢
        clear hAF
        try simp only [Nat.zero_add] at hK ⊢
        try simp only [Nat.reduceAdd] at hK ⊢
        try generalize xF 8 = yy8 at *
        obtain rfl := dd8
        obtain hbR := id hR
        have hxa := (hbR.block _ (lt_of_block XB.out)).trans XB.out
        have z0 := boxc hxa 0 _ rfl
        have z1 := boxc hxa 1 _ rfl
        have z2 := boxc hxa 2 _ rfl
        have z3 := boxc hxa 3 _ rfl
        clear hxa
        rw [if_pos (by rfl)]
        go_simp
        exact hK.out _ _ (Below.refl _ _) (rfl) (fun _ _ _ => ⟨trivial, trivial⟩)
      refine FlowAll.cons ?_ ?_
      · intro xF wx hR hd K hK
        have dd8 : ((xF 8) = .bool true) := hd 8 (by kernel_rfl)
        have dd11 : ((xF 11) = .agg #[.int .i64 x.k, .slice lo ln lc, .int .i64 x.a, .slice ko kn kc]) := hd 11 (by kernel_rfl)
        clear hd
        simp only [← hAF, Act.put, List.setIfInBounds_toArray, List.set_cons_zero, List.set_cons_succ] at hK ⊢
        clear hAF
        try simp only [Nat.zero_add] at hK ⊢
        try simp only [Nat.reduceAdd] at hK ⊢
        try generalize xF 8 = yy8 at *
        try generalize xF 11 = yy11 at *
        obtain rfl := dd8
        obtain rfl := dd11
        obtain hbR := id hR
        rw [if_pos (by rfl)]
        go_simp
        (go_at_call 13; (with_reducible refine (HR2.out _ hbR).mono ?_); rintro eK wK ⟨rfl, hbK⟩)
        try go_wp2_with fail
        exact hK.out _ _ (hbK) (rfl) (fun _ _ _ => ⟨trivial, trivial⟩)
      refine FlowAll.cons ?_ ?_
      · intro xF wx hR hd K hK
        have dd8 : ((xF 8) = .bool true) := hd 8 (by kernel_rfl)
        have dd10 : ((xF 10) = .bool r) := hd 10 (by kernel_rfl)
        have dd12 : ((xF 12) = .bool r) := hd 12 (by kernel_rfl)
        clear hd
        simp only [← hAF, Act.put, List.setIfInBounds_toArray, List.set_cons_zero, List.set_cons_succ] at hK ⊢
        clear hAF
        try simp only [Nat.zero_add] at hK ⊢
        try simp only [Nat.reduceAdd] at hK ⊢
        try generalize xF 8 = yy8 at *
        try generalize xF 10 = yy10 at *
        try generalize xF 12 = yy12 at *
        obtain rfl := dd8
        obtain rfl := dd10
        obtain rfl := dd12
        obtain hbR := id hR
        rw [if_pos (by rfl)]
        go_simp
        exact hK.out _ _ (Below.refl _ _) (rfl) (fun _ _ _ => ⟨trivial, trivial⟩)
      refine FlowAll.cons ?_ ?_
      · intro xF wx hR hd K hK
        have dd8 : ((xF 8) = .bool true) := hd 8 (by kernel_rfl)
        have dd13 : ((xF 13) = .bool true) := hd 13 (by kernel_rfl)
        clear hd
        simp only [← hAF, Act.put, List.setIfInBounds_toArray, List.set_cons_zero, List.set_cons_succ] at hK ⊢
        clear hAF
        try simp only [Nat.zero_add] at hK ⊢
        try simp only [Nat.reduceAdd] at hK ⊢
        try generalize xF 8 = yy8 at *
        try generalize xF 13 = yy13 at *
        obtain rfl := dd8
        obtain rfl := dd13
        obtain hbR := id hR
        rw [if_pos (by rfl)]
        go_simp
        exact hK.out _ _ (Below.refl _ _) (rfl) (fun _ _ _ => ⟨trivial, trivial⟩)
      refine FlowAll.cons ?_ ?_
      · intro xF wx hR hd K hK
        have dd14 : ((xF 14) = .bool true) := hd 14 (by kernel_rfl)
        clear hd
        simp only [← hAF, Act.put, List.setIfInBounds_toArray, List.set_cons_zero, List.set_cons_succ] at hK ⊢
        clear hAF
        try simp only [Nat.zero_add] at hK ⊢
        try simp only [Nat.reduceAdd] at hK ⊢
        try generalize xF 14 = yy14 at *
        obtain rfl := dd14
        obtain hbR := id hR
        rw [if_pos (by rfl)]
        go_simp
        exact hK.out _ _ (Below.refl _ _) (rfl) (fun _ _ _ => ⟨trivial, trivial⟩)
      refine FlowAll.cons ?_ ?_
      · intro xF wx hR hd K hK
        have dd15 : ((xF 15) = .bool true) := hd 15 (by kernel_rfl)
        clear hd
        simp only [← hAF, Act.put, List.setIfInBounds_toArray, List.set_cons_zero, List.set_cons_succ] at hK ⊢
        clear hAF
        try simp only [Nat.zero_add] at hK ⊢
        try simp only [Nat.reduceAdd] at hK ⊢
        try generalize xF 15 = yy15 at *
        obtain rfl := dd15
        obtain hbR := id hR
        have hxa := (hbR.block _ (lt_of_block XB.out)).trans XB.out
        have z0 := boxc hxa 0 _ rfl
        have z1 := boxc hxa 1 _ rfl
        have z2 := boxc hxa 2 _ rfl
        have z3 := boxc hxa 3 _ rfl
        clear hxa
        rw [if_pos (by rfl)]
        go_simp
        exact hK.out _ _ (Below.refl _ _) (rfl) (fun _ _ _ => ⟨trivial, trivial⟩)
      refine FlowAll.cons ?_ ?_
      · intro xF wx hR hd K hK
        have dd15 : ((xF 15) = .bool true) := hd 15 (by kernel_rfl)
        clear hd
        simp only [← hAF, Act.put, List.setIfInBounds_toArray, List.set_cons_zero, List.set_cons_succ] at hK ⊢
        clear hAF
        try simp only [Nat.zero_add] at hK ⊢
        try simp only [Nat.reduceAdd] at hK ⊢
        try generalize xF 15 = yy15 at *
        obtain rfl := dd15
        obtain hbR := id hR
        rw [if_pos (by rfl)]
        go_simp
        exact hK.out _ _ (Below.refl _ _) (rfl) (fun _ _ _ => ⟨trivial, trivial⟩)
      refine FlowAll.cons ?_ ?_
      · intro xF wx hR hd K hK
        have dd15 : ((xF 15) = .bool true) := hd 15 (by kernel_rfl)
        have dd16 : ((xF 16) = .agg #[.int .i64 x.k, .slice lo ln lc, .int .i64 x.a, .slice ko kn kc]) := hd 16 (by kernel_rfl)
        have dd17 : ((xF 17) = .int .i64 n) := hd 17 (by kernel_rfl)
        clear hd
        simp only [← hAF, Act.put, List.setIfInBounds_toArray, List.set_cons_zero, List.set_cons_succ] at hK ⊢
        clear hAF
        try simp only [Nat.zero_add] at hK ⊢
        try simp only [Nat.reduceAdd] at hK ⊢
        try generalize xF 15 = yy15 at *
        try generalize xF 16 = yy16 at *
        try generalize xF 17 = yy17 at *
        obtain rfl := dd15
        obtain rfl := dd16
        obtain rfl := dd17
        obtain hbR := id hR
        rw [if_pos (by rfl)]
        go_simp
        (go_at_call 15; (with_reducible refine (HK1.out _ hbR).mono ?_); rintro eK wK ⟨cK, rfl, hcK, hbK⟩)
        try go_wp2_with fail
        exact hK.out _ _ (hbK) (⟨cK, rfl, hcK⟩) (fun _ _ _ => ⟨trivial, trivial⟩)
      refine FlowAll.cons ?_ ?_
      · intro xF wx hR hd K hK
        have dd15 : ((xF 15) = .bool true) := hd 15 (by kernel_rfl)
        clear hd
        simp only [← hAF, Act.put, List.setIfInBounds_toArray, List.set_cons_zero, List.set_cons_succ] at hK ⊢
        clear hAF
        try simp only [Nat.zero_add] at hK ⊢
        try simp only [Nat.reduceAdd] at hK ⊢
        try generalize xF 15 = yy15 at *
        obtain rfl := dd15
        obtain hbR := id hR
        have hxa := (hbR.block _ (lt_of_block XB.out)).trans XB.out
        have z0 := boxc hxa 0 _ rfl
        have z1 := boxc hxa 1 _ rfl
        have z2 := boxc hxa 2 _ rfl
        have z3 := boxc hxa 3 _ rfl
        clear hxa
        rw [if_pos (by rfl)]
        go_simp
        exact hK.out _ _ (Below.refl _ _) (rfl) (fun _ _ _ => ⟨trivial, trivial⟩)
      refine FlowAll.cons ?_ ?_
      · intro xF wx hR hd K hK
        have dd15 : ((xF 15) = .bool true) := hd 15 (by kernel_rfl)
        clear hd
        simp only [← hAF, Act.put, List.setIfInBounds_toArray, List.set_cons_zero, List.set_cons_succ] at hK ⊢
        clear hAF
        try simp only [Nat.zero_add] at hK ⊢
        try simp only [Nat.reduceAdd] at hK ⊢
        try generalize xF 15 = yy15 at *
        obtain rfl := dd15
        obtain hbR := id hR
        rw [if_pos (by rfl)]
        go_simp
        exact hK.out _ _ (Below.refl _ _) (rfl) (fun _ _ _ => ⟨trivial, trivial⟩)
      refine FlowAll.cons ?_ ?_
      · intro xF wx hR hd K hK
        have dd15 : ((xF 15) = .bool true) := hd 15 (by kernel_rfl)
        have dd19 : ((xF 19) = .agg #[.int .i64 x.k, .slice lo ln lc, .int .i64 x.a, .slice ko kn kc]) := hd 19 (by kernel_rfl)
        have dd20 : ((xF 20) = .int .i64 n) := hd 20 (by kernel_rfl)
        clear hd
        simp only [← hAF, Act.put, List.setIfInBounds_toArray, List.set_cons_zero, List.set_cons_succ] at hK ⊢
        clear hAF
        try simp only [Nat.zero_add] at hK ⊢
        try simp only [Nat.reduceAdd] at hK ⊢
        try generalize xF 15 = yy15 at *
        try generalize xF 19 = yy19 at *
        try generalize xF 20 = yy20 at *
        obtain rfl := dd15
        obtain rfl := dd19
        obtain rfl := dd20
        obtain hbR := id hR
        rw [if_pos (by rfl)]
        go_simp
        (go_at_call 16; (with_reducible refine (HK2.out _ hbR).mono ?_); rintro eK wK ⟨cK, rfl, hcK, hbK⟩)
        try go_wp2_with fail
        exact hK.out _ _ (hbK) (⟨cK, rfl, hcK⟩) (fun _ _ _ => ⟨trivial, trivial⟩)
      refine FlowAll.cons ?_ ?_
      · intro xF wx hR hd K hK
        have dd15 : ((xF 15) = .bool true) := hd 15 (by kernel_rfl)
        have dd18 : (∃ c, (xF 18) = .agg (List.toArray c) ∧ curR (e) wx wx.heap.size c (x.seekT n)) := hd 18 (by kernel_rfl)
        have dd21 : (∃ c, (xF 21) = .agg (List.toArray c) ∧ curR (e) wx wx.heap.size c (x.seekT n)) := hd 21 (by kernel_rfl)
        clear hd
        simp only [← hAF, Act.put, List.setIfInBounds_toArray, List.set_cons_zero, List.set_cons_succ] at hK ⊢
        clear hAF
        try simp only [Nat.zero_add] at hK ⊢
        try simp only [Nat.reduceAdd] at hK ⊢
        try generalize xF 15 = yy15 at *
        try generalize xF 18 = yy18 at *
        try generalize xF 21 = yy21 at *
        obtain rfl := dd15
        obtain ⟨c18, rfl, hc18⟩ := dd18
        obtain ⟨c21, rfl, hc21⟩ := dd21
        obtain hbR := id hR
        rw [if_pos (by rfl)]
        go_simp
        (go_at_call 14; (with_reducible refine (same_same (e) _ _ _ _ hc18 hc21).mono ?_); rintro eK wK ⟨rfl, hbK⟩)
        try go_wp2_with fail
        exact hK.out _ _ (hbK) (rfl) (fun _ _ _ => ⟨trivial, trivial⟩)
      refine FlowAll.cons ?_ ?_
      · intro xF wx hR hd K hK
        have dd15 : ((xF 15) = .bool true) := hd 15 (by kernel_rfl)
        have dd22 : ((xF 22) = .bool true) := hd 22 (by kernel_rfl)
        clear hd
        simp only [← hAF, Act.put, List.setIfInBounds_toArray, List.set_cons_zero, List.set_cons_succ] at hK ⊢
        clear hAF
        try simp only [Nat.zero_add] at hK ⊢
        try simp only [Nat.reduceAdd] at hK ⊢
        try generalize xF 15 = yy15 at *
        try generalize xF 22 = yy22 at *
        obtain rfl := dd15
        obtain rfl := dd22
        obtain hbR := id hR
        rw [if_pos (by rfl)]
        go_simp
        exact hK.out _ _ (Below.refl _ _) (rfl) (fun _ _ _ => ⟨trivial, trivial⟩)
      refine FlowAll.cons ?_ ?_
      · intro xF wx hR hd K hK
        have dd23 : ((xF 23) = .bool true) := hd 23 (by kernel_rfl)
        clear hd
        simp only [← hAF, Act.put, List.setIfInBounds_toArray, List.set_cons_zero, List.set_cons_succ] at hK ⊢
        clear hAF
        try simp only [Nat.zero_add] at hK ⊢
        try simp only [Nat.reduceAdd] at hK ⊢
        try generalize xF 23 = yy23 at *
        obtain rfl := dd23
        obtain hbR := id hR
        rw [if_pos (by rfl)]
        go_simp
        exact hK.out _ _ (Below.refl _ _) (rfl) (fun _ _ _ => ⟨trivial, trivial⟩)
      refine FlowAll.cons ?_ ?_
      · intro xF wx hR hd K hK
        have dd24 : ((xF 24) = .bool true) := hd 24 (by kernel_rfl)
        clear hd
        simp only [← hAF, Act.put, List.setIfInBounds_toArray, List.set_cons_zero, List.set_cons_succ] at hK ⊢
        clear hAF
        try simp only [Nat.zero_add] at hK ⊢
        try simp only [Nat.reduceAdd] at hK ⊢
        try generalize xF 24 = yy24 at *
        obtain rfl := dd24
        obtain hbR := id hR
        have hxa := (hbR.block _ (lt_of_block XB.out)).trans XB.out
        have z0 := boxc hxa 0 _ rfl
        have z1 := boxc hxa 1 _ rfl
        have z2 := boxc hxa 2 _ rfl
        have z3 := boxc hxa 3 _ rfl
        clear hxa
        rw [if_pos (by rfl)]
        go_simp
        exact hK.out _ _ (Below.refl _ _) (rfl) (fun _ _ _ => ⟨trivial, trivial⟩)
      refine FlowAll.cons ?_ ?_
      · intro xF wx hR hd K hK
        have dd24 : ((xF 24) = .bool true) := hd 24 (by kernel_rfl)
        have dd25 : ((xF 25) = .agg #[.int .i64 x.k, .slice lo ln lc, .int .i64 x.a, .slice ko kn kc]) := hd 25 (by kernel_rfl)
        clear hd
        simp only [← hAF, Act.put, List.setIfInBounds_toArray, List.set_cons_zero, List.set_cons_succ] at hK ⊢
        clear hAF
        try simp only [Nat.zero_add] at hK ⊢
        try simp only [Nat.reduceAdd] at hK ⊢
        try generalize xF 24 = yy24 at *
        try generalize xF 25 = yy25 at *
        obtain rfl := dd24
        obtain rfl := dd25
        obtain hbR := id hR
        rw [if_pos (by rfl)]
        go_simp
        (go_at_call 17; (with_reducible refine (HT1.out _ hbR).mono ?_); rintro eK wK ⟨cK, rfl, hcK, hbK⟩)
        try go_wp2_with fail
        exact hK.out _ _ (hbK) (⟨cK, rfl, hcK⟩) (fun _ _ _ => ⟨trivial, trivial⟩)
      refine FlowAll.cons ?_ ?_
      · intro xF wx hR hd K hK
        have dd24 : ((xF 24) = .bool true) := hd 24 (by kernel_rfl)
        clear hd
        simp only [← hAF, Act.put, List.setIfInBounds_toArray, List.set_cons_zero, List.set_cons_succ] at hK ⊢
        clear hAF
        try simp only [Nat.zero_add] at hK ⊢
        try simp only [Nat.reduceAdd] at hK ⊢
        try generalize xF 24 = yy24 at *
        obtain rfl := dd24
        obtain hbR := id hR
        have hxa := (hbR.block _ (lt_of_block XB.out)).trans XB.out
        have z0 := boxc hxa 0 _ rfl
        have z1 := boxc hxa 1 _ rfl
        have z2 := boxc hxa 2 _ rfl
        have z3 := boxc hxa 3 _ rfl
        clear hxa
        rw [if_pos (by rfl)]
        go_simp
        exact hK.out _ _ (Below.refl _ _) (rfl) (fun _ _ _ => ⟨trivial, trivial⟩)
      refine FlowAll.cons ?_ ?_
      · intro xF wx hR hd K hK
        have dd24 : ((xF 24) = .bool true) := hd 24 (by kernel_rfl)
        have dd27 : ((xF 27) = .agg #[.int .i64 x.k, .slice lo ln lc, .int .i64 x.a, .slice ko kn kc]) := hd 27 (by kernel_rfl)
        clear hd
        simp only [← hAF, Act.put, List.setIfInBounds_toArray, List.set_cons_zero, List.set_cons_succ] at hK ⊢
        clear hAF
        try simp only [Nat.zero_add] at hK ⊢
        try simp only [Nat.reduceAdd] at hK ⊢
        try generalize xF 24 = yy24 at *
        try generalize xF 27 = yy27 at *
        obtain rfl := dd24
        obtain rfl := dd27
        obtain hbR := id hR
        rw [if_pos (by rfl)]
        go_simp
        (go_at_call 18; (with_reducible refine (HT2.out _ hbR).mono ?_); rintro eK wK ⟨cK, rfl, hcK, hbK⟩)
        try go_wp2_with fail
        exact hK.out _ _ (hbK) (⟨cK, rfl, hcK⟩) (fun _ _ _ => ⟨trivial, trivial⟩)
      refine FlowAll.cons ?_ ?_
      · intro xF wx hR hd K hK
        have dd24 : ((xF 24) = .bool true) := hd 24 (by kernel_rfl)
        have dd26 : (∃ c, (xF 26) = .agg (List.toArray c) ∧ curR (e) wx wx.heap.size c (x.stepT)) := hd 26 (by kernel_rfl)
        have dd28 : (∃ c, (xF 28) = .agg (List.toArray c) ∧ curR (e) wx wx.heap.size c (x.stepT)) := hd 28 (by kernel_rfl)
        clear hd
        simp only [← hAF, Act.put, List.setIfInBounds_toArray, List.set_cons_zero, List.set_cons_succ] at hK ⊢
        clear hAF
        try simp only [Nat.zero_add] at hK ⊢
        try simp only [Nat.reduceAdd] at hK ⊢
        try generalize xF 24 = yy24 at *
        try generalize xF 26 = yy26 at *
        try generalize xF 28 = yy28 at *
        obtain rfl := dd24
        obtain ⟨c26, rfl, hc26⟩ := dd26
        obtain ⟨c28, rfl, hc28⟩ := dd28
        obtain hbR := id hR
        rw [if_pos (by rfl)]
        go_simp
        (go_at_call 14; (with_reducible refine (same_same (e) _ _ _ _ hc26 hc28).mono ?_); rintro eK wK ⟨rfl, hbK⟩)
        try go_wp2_with fail
        exact hK.out _ _ (hbK) (rfl) (fun _ _ _ => ⟨trivial, trivial⟩)
      refine FlowAll.cons ?_ ?_
      · intro xF wx hR hd K hK
        have dd24 : ((xF 24) = .bool true) := hd 24 (by kernel_rfl)
        have dd29 : ((xF 29) = .bool true) := hd 29 (by kernel_rfl)
        clear hd
        simp only [← hAF, Act.put, List.setIfInBounds_toArray, List.set_cons_zero, List.set_cons_succ] at hK ⊢
        clear hAF
        try simp only [Nat.zero_add] at hK ⊢
        try simp only [Nat.reduceAdd] at hK ⊢
        try generalize xF 24 = yy24 at *
        try generalize xF 29 = yy29 at *
        obtain rfl := dd24
        obtain rfl := dd29
        obtain hbR := id hR
        rw [if_pos (by rfl)]
        go_simp
        exact hK.out _ _ (Below.refl _ _) (rfl) (fun _ _ _ => ⟨trivial, trivial⟩)
      refine FlowAll.cons ?_ ?_
      · intro xF wx hR hd K hK
        have dd30 : ((xF 30) = .bool true) := hd 30 (by kernel_rfl)
        clear hd
        simp only [← hAF, Act.put, List.setIfInBounds_toArray, List.set_cons_zero, List.set_cons_succ] at hK ⊢
        clear hAF
        try simp only [Nat.zero_add] at hK ⊢
        try simp only [Nat.reduceAdd] at hK ⊢
        try generalize xF 30 = yy30 at *
        obtain rfl := dd30
        obtain hbR := id hR
        rw [if_pos (by rfl)]
        go_simp
        exact hK.out _ _ (Below.refl _ _) (rfl) (fun _ _ _ => ⟨trivial, trivial⟩)
      refine FlowAll.cons ?_ ?_
      · intro xF wx hR hd K hK
        have dd31 : ((xF 31) = .bool true) := hd 31 (by kernel_rfl)
        clear hd
        simp only [← hAF, Act.put, List.setIfInBounds_toArray, List.set_cons_zero, List.set_cons_succ] at hK ⊢
        clear hAF
        try simp only [Nat.zero_add] at hK ⊢
        try simp only [Nat.reduceAdd] at hK ⊢
        try generalize xF 31 = yy31 at *
        obtain rfl := dd31
        obtain hbR := id hR
        have hxa := (hbR.block _ (lt_of_block XB.out)).trans XB.out
        have z0 := boxc hxa 0 _ rfl
        have z1 := boxc hxa 1 _ rfl
        have z2 := boxc hxa 2 _ rfl
        have z3 := boxc hxa 3 _ rfl
        clear hxa
        rw [if_pos (by rfl)]
        go_simp
        exact hK.out _ _ (Below.refl _ _) (rfl) (fun _ _ _ => ⟨trivial, trivial⟩)
      refine FlowAll.cons ?_ ?_
      · intro xF wx hR hd K hK
        have dd31 : ((xF 31) = .bool true) := hd 31 (by kernel_rfl)
        have dd32 : ((xF 32) = .agg #[.int .i64 x.k, .slice lo ln lc, .int .i64 x.a, .slice ko kn kc]) := hd 32 (by kernel_rfl)
        clear hd
        simp only [← hAF, Act.put, List.setIfInBounds_toArray, List.set_cons_zero, List.set_cons_succ] at hK ⊢
        clear hAF
        try simp only [Nat.zero_add] at hK ⊢
        try simp only [Nat.reduceAdd] at hK ⊢
        try generalize xF 31 = yy31 at *
        try generalize xF 32 = yy32 at *
        obtain rfl := dd31
        obtain rfl := dd32
        obtain hbR := id hR
        rw [if_pos (by rfl)]
        go_simp
        (go_at_call 20; (with_reducible refine (HA1.out _ hbR).mono ?_); rintro eK wK ⟨vK, rfl, oK, hbK⟩)
        try go_wp2_with fail
        exact hK.out _ _ (hbK) (at_.own oK) (fun _ _ _ => ⟨trivial, trivial⟩)
      refine FlowAll.cons ?_ ?_
      · intro xF wx hR hd K hK
        have dd31 : ((xF 31) = .bool true) := hd 31 (by kernel_rfl)
        clear hd
        simp only [← hAF, Act.put, List.setIfInBounds_toArray, List.set_cons_zero, List.set_cons_succ] at hK ⊢
        clear hAF
        try simp only [Nat.zero_add] at hK ⊢
        try simp only [Nat.reduceAdd] at hK ⊢
        try generalize xF 31 = yy31 at *
        obtain rfl := dd31
        obtain hbR := id hR
        have hxa := (hbR.block _ (lt_of_block XB.out)).trans XB.out
        have z0 := boxc hxa 0 _ rfl
        have z1 := boxc hxa 1 _ rfl
        have z2 := boxc hxa 2 _ rfl
        have z3 := boxc hxa 3 _ rfl
        clear hxa
        rw [if_pos (by rfl)]
        go_simp
        exact hK.out _ _ (Below.refl _ _) (rfl) (fun _ _ _ => ⟨trivial, trivial⟩)
      refine FlowAll.cons ?_ ?_
      · intro xF wx hR hd K hK
        have dd31 : ((xF 31) = .bool true) := hd 31 (by kernel_rfl)
        have dd34 : ((xF 34) = .agg #[.int .i64 x.k, .slice lo ln lc, .int .i64 x.a, .slice ko kn kc]) := hd 34 (by kernel_rfl)
        clear hd
        simp only [← hAF, Act.put, List.setIfInBounds_toArray, List.set_cons_zero, List.set_cons_succ] at hK ⊢
        clear hAF
        try simp only [Nat.zero_add] at hK ⊢
        try simp only [Nat.reduceAdd] at hK ⊢
        try generalize xF 31 = yy31 at *
        try generalize xF 34 = yy34 at *
        obtain rfl := dd31
        obtain rfl := dd34
        obtain hbR := id hR
        rw [if_pos (by rfl)]
        go_simp
        (go_at_call 21; (with_reducible refine (HA2.out _ hbR).mono ?_); rintro eK wK ⟨vK, rfl, oK, hbK⟩)
        try go_wp2_with fail
        exact hK.out _ _ (hbK) (at_.own oK) (fun _ _ _ => ⟨trivial, trivial⟩)
      refine FlowAll.cons ?_ ?_
      · intro xF wx hR hd K hK
        have dd31 : ((xF 31) = .bool true) := hd 31 (by kernel_rfl)
        have dd33 : (At wx wx.heap.size (xF 33) x.allN) := hd 33 (by kernel_rfl)
        have dd35 : (At wx wx.heap.size (xF 35) x.allN) := hd 35 (by kernel_rfl)
        clear hd
        simp only [← hAF, Act.put, List.setIfInBounds_toArray, List.set_cons_zero, List.set_cons_succ] at hK ⊢
        clear hAF
        try simp only [Nat.zero_add] at hK ⊢
        try simp only [Nat.reduceAdd] at hK ⊢
        try generalize xF 31 = yy31 at *
        try generalize xF 33 = yy33 at *
        try generalize xF 35 = yy35 at *
        obtain rfl := dd31
        have hn33 := dd33
        have hn35 := dd35
        obtain hbR := id hR
        rw [if_pos (by rfl)]
        go_simp
        (go_at_call 19; (with_reducible refine (ints_same _ _ _ _ hn33 hn35).mono ?_); rintro eK wK ⟨rfl, hbK⟩)
        try go_wp2_with fail
        exact hK.out _ _ (hbK) (rfl) (fun _ _ _ => ⟨trivial, trivial⟩)
      refine FlowAll.cons ?_ ?_
      · intro xF wx hR hd K hK
        have dd31 : ((xF 31) = .bool true) := hd 31 (by kernel_rfl)
        have dd36 : ((xF 36) = .bool true) := hd 36 (by kernel_rfl)
        clear hd
        simp only [← hAF, Act.put, List.setIfInBounds_toArray, List.set_cons_zero, List.set_cons_succ] at hK ⊢
        clear hAF
        try simp only [Nat.zero_add] at hK ⊢
        try simp only [Nat.reduceAdd] at hK ⊢
        try generalize xF 31 = yy31 at *
        try generalize xF 36 = yy36 at *
        obtain rfl := dd31
        obtain rfl := dd36
        obtain hbR := id hR
        rw [if_pos (by rfl)]
        go_simp
        exact hK.out _ _ (Below.refl _ _) (rfl) (fun _ _ _ => ⟨trivial, trivial⟩)
      refine FlowAll.cons ?_ ?_
      · intro xF wx hR hd K hK
        have dd37 : ((xF 37) = .bool true) := hd 37 (by kernel_rfl)
        clear hd
        simp only [← hAF, Act.put, List.setIfInBounds_toArray, List.set_cons_zero, List.set_cons_succ] at hK ⊢
        clear hAF
        try simp only [Nat.zero_add] at hK ⊢
        try simp only [Nat.reduceAdd] at hK ⊢
        try generalize xF 37 = yy37 at *
        obtain rfl := dd37
        obtain hbR := id hR
        rw [if_pos (by rfl)]
        go_simp
        exact hK.out _ _ (Below.refl _ _) (rfl) (fun _ _ _ => ⟨trivial, trivial⟩)
      refine FlowAll.cons ?_ ?_
      · intro xF wx hR hd K hK
        have dd38 : ((xF 38) = .bool true) := hd 38 (by kernel_rfl)
        clear hd
        simp only [← hAF, Act.put, List.setIfInBounds_toArray, List.set_cons_zero, List.set_cons_succ] at hK ⊢
        clear hAF
        try simp only [Nat.zero_add] at hK ⊢
        try simp only [Nat.reduceAdd] at hK ⊢
        try generalize xF 38 = yy38 at *
        obtain rfl := dd38
        obtain hbR := id hR
        have hxa := (hbR.block _ (lt_of_block XB.out)).trans XB.out
        have z0 := boxc hxa 0 _ rfl
        have z1 := boxc hxa 1 _ rfl
        have z2 := boxc hxa 2 _ rfl
        have z3 := boxc hxa 3 _ rfl
        clear hxa
        rw [if_pos (by rfl)]
        go_simp
        exact hK.out _ _ (Below.refl _ _) (rfl) (fun _ _ _ => ⟨trivial, trivial⟩)
      refine FlowAll.cons ?_ ?_
      · intro xF wx hR hd K hK
        have dd38 : ((xF 38) = .bool true) := hd 38 (by kernel_rfl)
        have dd39 : ((xF 39) = .agg #[.int .i64 x.k, .slice lo ln lc, .int .i64 x.a, .slice ko kn kc]) := hd 39 (by kernel_rfl)
        clear hd
        simp only [← hAF, Act.put, List.setIfInBounds_toArray, List.set_cons_zero, List.set_cons_succ] at hK ⊢
        clear hAF
        try simp only [Nat.zero_add] at hK ⊢
        try simp only [Nat.reduceAdd] at hK ⊢
        try generalize xF 38 = yy38 at *
        try generalize xF 39 = yy39 at *
        obtain rfl := dd38
        obtain rfl := dd39
        obtain hbR := id hR
        rw [if_pos (by rfl)]
        go_simp
        exact hK.out _ _ (below1) (⟨wx.heap.size, rfl, rows_lit (HXW.out _ hbR) rfl⟩) (fun _ _ _ => ⟨trivial, trivial⟩)
      refine FlowAll.cons ?_ ?_
      · intro xF wx hR hd K hK
        have dd38 : ((xF 38) = .bool true) := hd 38 (by kernel_rfl)
        have dd40 : (∃ g, (xF 40) = .slice (some ⟨g, 0, none⟩) 1 1 ∧ RowsAt 4 (curR e) wx wx.heap.size (.slice (some ⟨g, 0, none⟩) 1 1) [x]) := hd 40 (by kernel_rfl)
        clear hd
        simp only [← hAF, Act.put, List.setIfInBounds_toArray, List.set_cons_zero, List.set_cons_succ] at hK ⊢
        clear hAF
        try simp only [Nat.zero_add] at hK ⊢
        try simp only [Nat.reduceAdd] at hK ⊢
        try generalize xF 38 = yy38 at *
        try generalize xF 40 = yy40 at *
        obtain rfl := dd38
        obtain ⟨g40, rfl, hg40⟩ := dd40
        obtain hbR := id hR
        rw [if_pos (by rfl)]
        go_simp
        (go_at_call 22; (with_reducible refine (HB1.out _ _ hg40 hbR).mono ?_); rintro eK wK ⟨cK, rfl, hcK, hbK⟩)
        try go_wp2_with fail
        exact hK.out _ _ (hbK) (⟨cK, rfl, hcK⟩) (fun _ _ _ => ⟨trivial, trivial⟩)
      refine FlowAll.cons ?_ ?_
      · intro xF wx hR hd K hK
        have dd38 : ((xF 38) = .bool true) := hd 38 (by kernel_rfl)
        clear hd
        simp only [← hAF, Act.put, List.setIfInBounds_toArray, List.set_cons_zero, List.set_cons_succ] at hK ⊢
        clear hAF
        try simp only [Nat.zero_add] at hK ⊢
        try simp only [Nat.reduceAdd] at hK ⊢
        try generalize xF 38 = yy38 at *
        obtain rfl := dd38
        obtain hbR := id hR
        have hxa := (hbR.block _ (lt_of_block XB.out)).trans XB.out
        have z0 := boxc hxa 0 _ rfl
        have z1 := boxc hxa 1 _ rfl
        have z2 := boxc hxa 2 _ rfl
        have z3 := boxc hxa 3 _ rfl
        clear hxa
        rw [if_pos (by rfl)]
        go_simp
        exact hK.out _ _ (Below.refl _ _) (rfl) (fun _ _ _ => ⟨trivial, trivial⟩)
      refine FlowAll.cons ?_ ?_
      · intro xF wx hR hd K hK
        have dd38 : ((xF 38) = .bool true) := hd 38 (by kernel_rfl)
        have dd42 : ((xF 42) = .agg #[.int .i64 x.k, .slice lo ln lc, .int .i64 x.a, .slice ko kn kc]) := hd 42 (by kernel_rfl)
        clear hd
        simp only [← hAF, Act.put, List.setIfInBounds_toArray, List.set_cons_zero, List.set_cons_succ] at hK ⊢
        clear hAF
        try simp only [Nat.zero_add] at hK ⊢
        try simp only [Nat.reduceAdd] at hK ⊢
        try generalize xF 38 = yy38 at *
        try generalize xF 42 = yy42 at *
        obtain rfl := dd38
        obtain rfl := dd42
        obtain hbR := id hR
        rw [if_pos (by rfl)]
        go_simp
        exact hK.out _ _ (below1) (⟨wx.heap.size, rfl, rows_lit (HXW.out _ hbR) rfl⟩) (fun _ _ _ => ⟨trivial, trivial⟩)
      refine FlowAll.cons ?_ ?_
      · intro xF wx hR hd K hK
        have dd38 : ((xF 38) = .bool true) := hd 38 (by kernel_rfl)
        have dd43 : (∃ g, (xF 43) = .slice (some ⟨g, 0, none⟩) 1 1 ∧ RowsAt 4 (curR e) wx wx.heap.size (.slice (some ⟨g, 0, none⟩) 1 1) [x]) := hd 43 (by kernel_rfl)
        clear hd
        simp only [← hAF, Act.put, List.setIfInBounds_toArray, List.set_cons_zero, List.set_cons_succ] at hK ⊢
        clear hAF
        try simp only [Nat.zero_add] at hK ⊢
        try simp only [Nat.reduceAdd] at hK ⊢
        try generalize xF 38 = yy38 at *
        try generalize xF 43 = yy43 at *
        obtain rfl := dd38
        obtain ⟨g43, rfl, hg43⟩ := dd43
        obtain hbR := id hR
        rw [if_pos (by rfl)]
        go_simp
        (go_at_call 23; (with_reducible refine (HB2.out _ _ hg43 hbR).mono ?_); rintro eK wK ⟨cK, rfl, hcK, hbK⟩)
        try go_wp2_with fail
        exact hK.out _ _ (hbK) (⟨cK, rfl, hcK⟩) (fun _ _ _ => ⟨trivial, trivial⟩)
      refine FlowAll.cons ?_ ?_
      · intro xF wx hR hd K hK
        have dd38 : ((xF 38) = .bool true) := hd 38 (by kernel_rfl)
        have dd41 : (∃ c, (xF 41) = .agg (List.toArray c) ∧ curR (e + 1) wx wx.heap.size c (.mk 2 [] 0 [x])) := hd 41 (by kernel_rfl)
        have dd44 : (∃ c, (xF 44) = .agg (List.toArray c) ∧ curR (e + 1) wx wx.heap.size c (.mk 2 [] 0 [x])) := hd 44 (by kernel_rfl)
        clear hd
        simp only [← hAF, Act.put, List.setIfInBounds_toArray, List.set_cons_zero, List.set_cons_succ] at hK ⊢
        clear hAF
        try simp only [Nat.zero_add] at hK ⊢
        try simp only [Nat.reduceAdd] at hK ⊢
        try generalize xF 38 = yy38 at *
        try generalize xF 41 = yy41 at *
        try generalize xF 44 = yy44 at *
        obtain rfl := dd38
        obtain ⟨c41, rfl, hc41⟩ := dd41
        obtain ⟨c44, rfl, hc44⟩ := dd44
        obtain hbR := id hR
        rw [if_pos (by rfl)]
        go_simp
        (go_at_call 14; (with_reducible refine (same_same (e + 1) _ _ _ _ hc41 hc44).mono ?_); rintro eK wK ⟨rfl, hbK⟩)
        try go_wp2_with fail
        exact hK.out _ _ (hbK) (rfl) (fun _ _ _ => ⟨trivial, trivial⟩)
      refine FlowAll.cons ?_ ?_
      · intro xF wx hR hd K hK
        have dd38 : ((xF 38) = .bool true) := hd 38 (by kernel_rfl)
        have dd45 : ((xF 45) = .bool true) := hd 45 (by kernel_rfl)
        clear hd
        simp only [← hAF, Act.put, List.setIfInBounds_toArray, List.set_cons_zero, List.set_cons_succ] at hK ⊢
        clear hAF
        try simp only [Nat.zero_add] at hK ⊢
        try simp only [Nat.reduceAdd] at hK ⊢
        try generalize xF 38 = yy38 at *
        try generalize xF 45 = yy45 at *
        obtain rfl := dd38
        obtain rfl := dd45
        obtain hbR := id hR
        rw [if_pos (by rfl)]
        go_simp
        exact hK.out _ _ (Below.refl _ _) (rfl) (fun _ _ _ => ⟨trivial, trivial⟩)
      refine FlowAll.cons ?_ ?_
      · intro xF wx hR hd K hK
        have dd46 : ((xF 46) = .bool true) := hd 46 (by kernel_rfl)
        clear hd
        simp only [← hAF, Act.put, List.setIfInBounds_toArray, List.set_cons_zero, List.set_cons_succ] at hK ⊢
        clear hAF
        try simp only [Nat.zero_add] at hK ⊢
        try simp only [Nat.reduceAdd] at hK ⊢
        try generalize xF 46 = yy46 at *
        obtain rfl := dd46
        obtain hbR := id hR
        rw [if_pos (by rfl)]
        go_simp
        exact hK.out _ _ (Below.refl _ _) (rfl) (fun _ _ _ => ⟨trivial, trivial⟩)
      refine FlowAll.cons ?_ ?_
      · intro xF wx hR hd K hK
        have dd47 : ((xF 47) = .bool true) := hd 47 (by kernel_rfl)
        clear hd
        simp only [← hAF, Act.put, List.setIfInBounds_toArray, List.set_cons_zero, List.set_cons_succ] at hK ⊢
        clear hAF
        try simp only [Nat.zero_add] at hK ⊢
        try simp only [Nat.reduceAdd] at hK ⊢
        try generalize xF 47 = yy47 at *
        obtain rfl := dd47
        obtain hbR := id hR
        have hxa := (hbR.block _ (lt_of_block XB.out)).trans XB.out
        have z0 := boxc hxa 0 _ rfl
        have z1 := boxc hxa 1 _ rfl
        have z2 := boxc hxa 2 _ rfl
        have z3 := boxc hxa 3 _ rfl
        clear hxa
        rw [if_pos (by rfl)]
        go_simp
        exact hK.out _ _ (Below.refl _ _) (rfl) (fun _ _ _ => ⟨trivial, trivial⟩)
      refine FlowAll.cons ?_ ?_
      · intro xF wx hR hd K hK
        have dd47 : ((xF 47) = .bool true) := hd 47 (by kernel_rfl)
        clear hd
        simp only [← hAF, Act.put, List.setIfInBounds_toArray, List.set_cons_zero, List.set_cons_succ] at hK ⊢
        clear hAF
        try simp only [Nat.zero_add] at hK ⊢
        try simp only [Nat.reduceAdd] at hK ⊢
        try generalize xF 47 = yy47 at *
        obtain rfl := dd47
        obtain hbR := id hR
        have hxa := (hbR.block _ (lt_of_block XB.out)).trans XB.out
        have z0 := boxc hxa 0 _ rfl
        have z1 := boxc hxa 1 _ rfl
        have z2 := boxc hxa 2 _ rfl
        have z3 := boxc hxa 3 _ rfl
        clear hxa
        rw [if_pos (by rfl)]
        go_simp
        exact hK.out _ _ (Below.refl _ _) (rfl) (fun _ _ _ => ⟨trivial, trivial⟩)
      refine FlowAll.cons ?_ ?_
      · intro xF wx hR hd K hK
        have dd47 : ((xF 47) = .bool true) := hd 47 (by kernel_rfl)
        have dd49 : ((xF 49) = .agg #[.int .i64 x.k, .slice lo ln lc, .int .i64 x.a, .slice ko kn kc]) := hd 49 (by kernel_rfl)
        clear hd
        simp only [← hAF, Act.put, List.setIfInBounds_toArray, List.set_cons_zero, List.set_cons_succ] at hK ⊢
        clear hAF
        try simp only [Nat.zero_add] at hK ⊢
        try simp only [Nat.reduceAdd] at hK ⊢
        try generalize xF 47 = yy47 at *
        try generalize xF 49 = yy49 at *
        obtain rfl := dd47
        obtain rfl := dd49
        obtain hbR := id hR
        rw [if_pos (by rfl)]
        go_simp
        exact hK.out _ _ (below1) (⟨wx.heap.size, rfl, rows_lit (HXW.out _ hbR) rfl⟩) (fun _ _ _ => ⟨trivial, trivial⟩)
      refine FlowAll.cons ?_ ?_
      · intro xF wx hR hd K hK
        have dd47 : ((xF 47) = .bool true) := hd 47 (by kernel_rfl)
        have dd48 : ((xF 48) = .agg #[.int .i64 x.k, .slice lo ln lc, .int .i64 x.a, .slice ko kn kc]) := hd 48 (by kernel_rfl)
        have dd50 : (∃ g, (xF 50) = .slice (some ⟨g, 0, none⟩) 1 1 ∧ RowsAt 4 (curR e) wx wx.heap.size (.slice (some ⟨g, 0, none⟩) 1 1) [x]) := hd 50 (by kernel_rfl)
        clear hd
        simp only [← hAF, Act.put, List.setIfInBounds_toArray, List.set_cons_zero, List.set_cons_succ] at hK ⊢
        clear hAF
        try simp only [Nat.zero_add] at hK ⊢
        try simp only [Nat.reduceAdd] at hK ⊢
        try generalize xF 47 = yy47 at *
        try generalize xF 48 = yy48 at *
        try generalize xF 50 = yy50 at *
        obtain rfl := dd47
        obtain rfl := dd48
        obtain ⟨g50, rfl, hg50⟩ := dd50
        obtain hbR := id hR
        rw [if_pos (by rfl)]
        go_simp
        (go_at_call 24; (with_reducible refine (HM1.out _ _ hg50 hbR).mono ?_); rintro eK wK ⟨cK, rfl, hcK, hbK⟩)
        try go_wp2_with fail
        exact hK.out _ _ (hbK) (⟨cK, rfl, hcK⟩) (fun _ _ _ => ⟨trivial, trivial⟩)
      refine FlowAll.cons ?_ ?_
      · intro xF wx hR hd K hK
        have dd47 : ((xF 47) = .bool true) := hd 47 (by kernel_rfl)
        clear hd
        simp only [← hAF, Act.put, List.setIfInBounds_toArray, List.set_cons_zero, List.set_cons_succ] at hK ⊢
        clear hAF
        try simp only [Nat.zero_add] at hK ⊢
        try simp only [Nat.reduceAdd] at hK ⊢
        try generalize xF 47 = yy47 at *
        obtain rfl := dd47
        obtain hbR := id hR
        have hxa := (hbR.block _ (lt_of_block XB.out)).trans XB.out
        have z0 := boxc hxa 0 _ rfl
        have z1 := boxc hxa 1 _ rfl
        have z2 := boxc hxa 2 _ rfl
        have z3 := boxc hxa 3 _ rfl
        clear hxa
        rw [if_pos (by rfl)]
        go_simp
        exact hK.out _ _ (Below.refl _ _) (rfl) (fun _ _ _ => ⟨trivial, trivial⟩)
      refine FlowAll.cons ?_ ?_
      · intro xF wx hR hd K hK
        have dd47 : ((xF 47) = .bool true) := hd 47 (by kernel_rfl)
        clear hd
        simp only [← hAF, Act.put, List.setIfInBounds_toArray, List.set_cons_zero, List.set_cons_succ] at hK ⊢
        clear hAF
        try simp only [Nat.zero_add] at hK ⊢
        try simp only [Nat.reduceAdd] at hK ⊢
        try generalize xF 47 = yy47 at *
        obtain rfl := dd47
        obtain hbR := id hR
        have hxa := (hbR.block _ (lt_of_block XB.out)).trans XB.out
        have z0 := boxc hxa 0 _ rfl
        have z1 := boxc hxa 1 _ rfl
        have z2 := boxc hxa 2 _ rfl
        have z3 := boxc hxa 3 _ rfl
        clear hxa
        rw [if_pos (by rfl)]
        go_simp
        exact hK.out _ _ (Below.refl _ _) (rfl) (fun _ _ _ => ⟨trivial, trivial⟩)
      refine FlowAll.cons ?_ ?_
      · intro xF wx hR hd K hK
        have dd47 : ((xF 47) = .bool true) := hd 47 (by kernel_rfl)
        have dd53 : ((xF 53) = .agg #[.int .i64 x.k, .slice lo ln lc, .int .i64 x.a, .slice ko kn kc]) := hd 53 (by kernel_rfl)
        clear hd
        simp only [← hAF, Act.put, List.setIfInBounds_toArray, List.set_cons_zero, List.set_cons_succ] at hK ⊢
        clear hAF
        try simp only [Nat.zero_add] at hK ⊢
        try simp only [Nat.reduceAdd] at hK ⊢
        try generalize xF 47 = yy47 at *
        try generalize xF 53 = yy53 at *
        obtain rfl := dd47
        obtain rfl := dd53
        obtain hbR := id hR
        rw [if_pos (by rfl)]
        go_simp
        exact hK.out _ _ (below1) (⟨wx.heap.size, rfl, rows_lit (HXW.out _ hbR) rfl⟩) (fun _ _ _ => ⟨trivial, trivial⟩)
      refine FlowAll.cons ?_ ?_
      · intro xF wx hR hd K hK
        have dd47 : ((xF 47) = .bool true) := hd 47 (by kernel_rfl)
        have dd52 : ((xF 52) = .agg #[.int .i64 x.k, .slice lo ln lc, .int .i64 x.a, .slice ko kn kc]) := hd 52 (by kernel_rfl)
        have dd54 : (∃ g, (xF 54) = .slice (some ⟨g, 0, none⟩) 1 1 ∧ RowsAt 4 (curR e) wx wx.heap.size (.slice (some ⟨g, 0, none⟩) 1 1) [x]) := hd 54 (by kernel_rfl)
        clear hd
        simp only [← hAF, Act.put, List.setIfInBounds_toArray, List.set_cons_zero, List.set_cons_succ] at hK ⊢
        clear hAF
        try simp only [Nat.zero_add] at hK ⊢
        try simp only [Nat.reduceAdd] at hK ⊢
        try generalize xF 47 = yy47 at *
        try generalize xF 52 = yy52 at *
        try generalize xF 54 = yy54 at *
        obtain rfl := dd47
        obtain rfl := dd52
        obtain ⟨g54, rfl, hg54⟩ := dd54
        obtain hbR := id hR
        rw [if_pos (by rfl)]
        go_simp
        (go_at_call 25; (with_reducible refine (HM2.out _ _ hg54 hbR).mono ?_); rintro eK wK ⟨cK, rfl, hcK, hbK⟩)
        try go_wp2_with fail
        exact hK.out _ _ (hbK) (⟨cK, rfl, hcK⟩) (fun _ _ _ => ⟨trivial, trivial⟩)
      refine FlowAll.cons ?_ ?_
      · intro xF wx hR hd K hK
        have dd47 : ((xF 47) = .bool true) := hd 47 (by kernel_rfl)
        have dd51 : (∃ c, (xF 51) = .agg (List.toArray c) ∧ curR (e + 1) wx wx.heap.size c (.mk 4 [] 0 [x, x])) := hd 51 (by kernel_rfl)
        have dd55 : (∃ c, (xF 55) = .agg (List.toArray c) ∧ curR (e + 1) wx wx.heap.size c (.mk 4 [] 0 [x, x])) := hd 55 (by kernel_rfl)
        clear hd
        simp only [← hAF, Act.put, List.setIfInBounds_toArray, List.set_cons_zero, List.set_cons_succ] at hK ⊢
        clear hAF
        try simp only [Nat.zero_add] at hK ⊢
        try simp only [Nat.reduceAdd] at hK ⊢
        try generalize xF 47 = yy47 at *
        try generalize xF 51 = yy51 at *
        try generalize xF 55 = yy55 at *
        obtain rfl := dd47
        obtain ⟨c51, rfl, hc51⟩ := dd51
        obtain ⟨c55, rfl, hc55⟩ := dd55
        obtain hbR := id hR
        rw [if_pos (by rfl)]
        go_simp
        (go_at_call 14; (with_reducible refine (same_same (e + 1) _ _ _ _ hc51 hc55).mono ?_); rintro eK wK ⟨rfl, hbK⟩)
        try go_wp2_with fail
        exact hK.out _ _ (hbK) (rfl) (fun _ _ _ => ⟨trivial, trivial⟩)
      refine FlowAll.cons ?_ ?_
      · intro xF wx hR hd K hK
        have dd47 : ((xF 47) = .bool true) := hd 47 (by kernel_rfl)
        have dd56 : ((xF 56) = .bool true) := hd 56 (by kernel_rfl)
        clear hd
        simp only [← hAF, Act.put, List.setIfInBounds_toArray, List.set_cons_zero, List.set_cons_succ] at hK ⊢
        clear hAF
        try simp only [Nat.zero_add] at hK ⊢
        try simp only [Nat.reduceAdd] at hK ⊢
        try generalize xF 47 = yy47 at *
        try generalize xF 56 = yy56 at *
        obtain rfl := dd47
        obtain rfl := dd56
        obtain hbR := id hR
        rw [if_pos (by rfl)]
        go_simp
        exact hK.out _ _ (Below.refl _ _) (rfl) (fun _ _ _ => ⟨trivial, trivial⟩)
      refine FlowAll.cons ?_ ?_
      · intro xF wx hR hd K hK
        have dd57 : ((xF 57) = .bool true) := hd 57 (by kernel_rfl)
        clear hd
        simp only [← hAF, Act.put, List.setIfInBounds_toArray, List.set_cons_zero, List.set_cons_succ] at hK ⊢
        clear hAF
        try simp only [Nat.zero_add] at hK ⊢
        try simp only [Nat.reduceAdd] at hK ⊢
        try generalize xF 57 = yy57 at *
        obtain rfl := dd57
        obtain hbR := id hR
        rw [if_pos (by rfl)]
        go_simp
        exact hK.out _ _ (Below.refl _ _) (rfl) (fun _ _ _ => ⟨trivial, trivial⟩)
      refine FlowAll.cons ?_ ?_
      · intro xF wx hR hd K hK
        have dd58 : ((xF 58) = .bool true) := hd 58 (by kernel_rfl)
        clear hd
        simp only [← hAF, Act.put, List.setIfInBounds_toArray, List.set_cons_zero, List.set_cons_succ] at hK ⊢
        clear hAF
        try simp only [Nat.zero_add] at hK ⊢
        try simp only [Nat.reduceAdd] at hK ⊢
        try generalize xF 58 = yy58 at *
        obtain rfl := dd58
        obtain hbR := id hR
        rw [if_pos (by rfl)]
        go_simp
        (go_at_call 9; (with_reducible refine (HAW.out _).mono ?_); rintro eK wK ⟨rfl, hbK⟩)
        try go_wp2_with fail
        exact hK.out _ _ (hbK) (rfl) (fun _ _ _ => ⟨trivial, trivial⟩)
      refine FlowAll.cons ?_ ?_
      · intro xF wx hR hd K hK
        have dd58 : ((xF 58) = .bool true) := hd 58 (by kernel_rfl)
        have dd59 : ((xF 59) = .bool true) := hd 59 (by kernel_rfl)
        clear hd
        simp only [← hAF, Act.put, List.setIfInBounds_toArray, List.set_cons_zero, List.set_cons_succ] at hK ⊢
        clear hAF
        try simp only [Nat.zero_add] at hK ⊢
        try simp only [Nat.reduceAdd] at hK ⊢
        try generalize xF 58 = yy58 at *
        try generalize xF 59 = yy59 at *
        obtain rfl := dd58
        obtain rfl := dd59
        obtain hbR := id hR
        rw [if_pos (by rfl)]
        go_simp
        exact hK.out _ _ (Below.refl _ _) (rfl) (fun _ _ _ => ⟨trivial, trivial⟩)
      refine FlowAll.cons ?_ ?_
      · intro xF wx hR hd K hK
        have dd60 : ((xF 60) = .bool true) := hd 60 (by kernel_rfl)
        clear hd
        simp only [← hAF, Act.put, List.setIfInBounds_toArray, List.set_cons_zero, List.set_cons_succ] at hK ⊢
        clear hAF
        try simp only [Nat.zero_add] at hK ⊢
        try simp only [Nat.reduceAdd] at hK ⊢
        try generalize xF 60 = yy60 at *
        obtain rfl := dd60
        obtain hbR := id hR
        rw [if_pos (by rfl)]
        go_simp
        exact hK.out _ _ (Below.refl _ _) (rfl) (fun _ _ _ => ⟨trivial, trivial⟩)
      exact FlowAll.nil
    intro xF wx hR hF hP
    clear hP
    have dd0 : ((xF 0) = .int .i64 (s.getD 0)) := hF 0 (by omega) (by decide)
    have dd1 : ((xF 1) = .int .i64 (s.getD 0)) := hF 1 (by omega) (by decide)
    have dd2 : ((xF 2) = .bool true) := hF 2 (by omega) (by decide)
    have dd3 : ((xF 3) = .bool true) := hF 3 (by omega) (by decide)
    have dd4 : ((xF 4) = .bool s.isSome) := hF 4 (by omega) (by decide)
    have dd5 : ((xF 5) = .bool s.isSome) := hF 5 (by omega) (by decide)
    have dd6 : ((xF 6) = .bool true) := hF 6 (by omega) (by decide)
    have dd7 : ((xF 7) = .bool true) := hF 7 (by omega) (by decide)
    have dd8 : ((xF 8) = .bool true) := hF 8 (by omega) (by decide)
    have dd9 : ((xF 9) = .agg #[.int .i64 x.k, .slice lo ln lc, .int .i64 x.a, .slice ko kn kc]) := hF 9 (by omega) (by decide)
    have dd10 : ((xF 10) = .bool r) := hF 10 (by omega) (by decide)
    have dd11 : ((xF 11) = .agg #[.int .i64 x.k, .slice lo ln lc, .int .i64 x.a, .slice ko kn kc]) := hF 11 (by omega) (by decide)
    have dd12 : ((xF 12) = .bool r) := hF 12 (by omega) (by decide)
    have dd13 : ((xF 13) = .bool true) := hF 13 (by omega) (by decide)
    have dd14 : ((xF 14) = .bool true) := hF 14 (by omega) (by decide)
    have dd15 : ((xF 15) = .bool true) := hF 15 (by omega) (by decide)
    have dd16 : ((xF 16) = .agg #[.int .i64 x.k, .slice lo ln lc, .int .i64 x.a, .slice ko kn kc]) := hF 16 (by omega) (by decide)
    have dd17 : ((xF 17) = .int .i64 n) := hF 17 (by omega) (by decide)
    have dd18 : (∃ c, (xF 18) = .agg (List.toArray c) ∧ curR (e) wx wx.heap.size c (x.seekT n)) := hF 18 (by omega) (by decide)
    have dd19 : ((xF 19) = .agg #[.int .i64 x.k, .slice lo ln lc, .int .i64 x.a, .slice ko kn kc]) := hF 19 (by omega) (by decide)
    have dd20 : ((xF 20) = .int .i64 n) := hF 20 (by omega) (by decide)
    have dd21 : (∃ c, (xF 21) = .agg (List.toArray c) ∧ curR (e) wx wx.heap.size c (x.seekT n)) := hF 21 (by omega) (by decide)
    have dd22 : ((xF 22) = .bool true) := hF 22 (by omega) (by decide)
    have dd23 : ((xF 23) = .bool true) := hF 23 (by omega) (by decide)
    have dd24 : ((xF 24) = .bool true) := hF 24 (by omega) (by decide)
    have dd25 : ((xF 25) = .agg #[.int .i64 x.k, .slice lo ln lc, .int .i64 x.a, .slice ko kn kc]) := hF 25 (by omega) (by decide)
    have dd26 : (∃ c, (xF 26) = .agg (List.toArray c) ∧ curR (e) wx wx.heap.size c (x.stepT)) := hF 26 (by omega) (by decide)
    have dd27 : ((xF 27) = .agg #[.int .i64 x.k, .slice lo ln lc, .int .i64 x.a, .slice ko kn kc]) := hF 27 (by omega) (by decide)
    have dd28 : (∃ c, (xF 28) = .agg (List.toArray c) ∧ curR (e) wx wx.heap.size c (x.stepT)) := hF 28 (by omega) (by decide)
    have dd29 : ((xF 29) = .bool true) := hF 29 (by omega) (by decide)
    have dd30 : ((xF 30) = .bool true) := hF 30 (by omega) (by decide)
    have dd31 : ((xF 31) = .bool true) := hF 31 (by omega) (by decide)
    have dd32 : ((xF 32) = .agg #[.int .i64 x.k, .slice lo ln lc, .int .i64 x.a, .slice ko kn kc]) := hF 32 (by omega) (by decide)
    have dd33 : (At wx wx.heap.size (xF 33) x.allN) := hF 33 (by omega) (by decide)
    have dd34 : ((xF 34) = .agg #[.int .i64 x.k, .slice lo ln lc, .int .i64 x.a, .slice ko kn kc]) := hF 34 (by omega) (by decide)
    have dd35 : (At wx wx.heap.size (xF 35) x.allN) := hF 35 (by omega) (by decide)
    have dd36 : ((xF 36) = .bool true) := hF 36 (by omega) (by decide)
    have dd37 : ((xF 37) = .bool true) := hF 37 (by omega) (by decide)
    have dd38 : ((xF 38) = .bool true) := hF 38 (by omega) (by decide)
    have dd39 : ((xF 39) = .agg #[.int .i64 x.k, .slice lo ln lc, .int .i64 x.a, .slice ko kn kc]) := hF 39 (by omega) (by decide)
    have dd40 : (∃ g, (xF 40) = .slice (some ⟨g, 0, none⟩) 1 1 ∧ RowsAt 4 (curR e) wx wx.heap.size (.slice (some ⟨g, 0, none⟩) 1 1) [x]) := hF 40 (by omega) (by decide)
    have dd41 : (∃ c, (xF 41) = .agg (List.toArray c) ∧ curR (e + 1) wx wx.heap.size c (.mk 2 [] 0 [x])) := hF 41 (by omega) (by decide)
    have dd42 : ((xF 42) = .agg #[.int .i64 x.k, .slice lo ln lc, .int .i64 x.a, .slice ko kn kc]) := hF 42 (by omega) (by decide)
    have dd43 : (∃ g, (xF 43) = .slice (some ⟨g, 0, none⟩) 1 1 ∧ RowsAt 4 (curR e) wx wx.heap.size (.slice (some ⟨g, 0, none⟩) 1 1) [x]) := hF 43 (by omega) (by decide)
    have dd44 : (∃ c, (xF 44) = .agg (List.toArray c) ∧ curR (e + 1) wx wx.heap.size c (.mk 2 [] 0 [x])) := hF 44 (by omega) (by decide)
    have dd45 : ((xF 45) = .bool true) := hF 45 (by omega) (by decide)
    have dd46 : ((xF 46) = .bool true) := hF 46 (by omega) (by decide)
    have dd47 : ((xF 47) = .bool true) := hF 47 (by omega) (by decide)
    have dd48 : ((xF 48) = .agg #[.int .i64 x.k, .slice lo ln lc, .int .i64 x.a, .slice ko kn kc]) := hF 48 (by omega) (by decide)
    have dd49 : ((xF 49) = .agg #[.int .i64 x.k, .slice lo ln lc, .int .i64 x.a, .slice ko kn kc]) := hF 49 (by omega) (by decide)
    have dd50 : (∃ g, (xF 50) = .slice (some ⟨g, 0, none⟩) 1 1 ∧ RowsAt 4 (curR e) wx wx.heap.size (.slice (some ⟨g, 0, none⟩) 1 1) [x]) := hF 50 (by omega) (by decide)
    have dd51 : (∃ c, (xF 51) = .agg (List.toArray c) ∧ curR (e + 1) wx wx.heap.size c (.mk 4 [] 0 [x, x])) := hF 51 (by omega) (by decide)
    have dd52 : ((xF 52) = .agg #[.int .i64 x.k, .slice lo ln lc, .int .i64 x.a, .slice ko kn kc]) := hF 52 (by omega) (by decide)
    have dd53 : ((xF 53) = .agg #[.int .i64 x.k, .slice lo ln lc, .int .i64 x.a, .slice ko kn kc]) := hF 53 (by omega) (by decide)
    have dd54 : (∃ g, (xF 54) = .slice (some ⟨g, 0, none⟩) 1 1 ∧ RowsAt 4 (curR e) wx wx.heap.size (.slice (some ⟨g, 0, none⟩) 1 1) [x]) := hF 54 (by omega) (by decide)
    have dd55 : (∃ c, (xF 55) = .agg (List.toArray c) ∧ curR (e + 1) wx wx.heap.size c (.mk 4 [] 0 [x, x])) := hF 55 (by omega) (by decide)
    have dd56 : ((xF 56) = .bool true) := hF 56 (by omega) (by decide)
    have dd57 : ((xF 57) = .bool true) := hF 57 (by omega) (by decide)
    have dd58 : ((xF 58) = .bool true) := hF 58 (by omega) (by decide)
    have dd59 : ((xF 59) = .bool true) := hF 59 (by omega) (by decide)
    have dd60 : ((xF 60) = .bool true) := hF 60 (by omega) (by decide)
    have dd61 : ((xF 61) = .bool true) := hF 61 (by omega) (by decide)
    clear hF
    simp only [List.take_succ_cons, List.take_zero, List.drop_succ_cons, List.drop_zero, fillOf, Act.put, List.setIfInBounds_toArray, List.set_cons_zero, List.set_cons_succ, Nat.reduceAdd, Nat.zero_add]
    try generalize xF 0 = yy0 at *
    try generalize xF 1 = yy1 at *
    try generalize xF 2 = yy2 at *
    try generalize xF 3 = yy3 at *
    try generalize xF 4 = yy4 at *
    try generalize xF 5 = yy5 at *
    try generalize xF 6 = yy6 at *
    try generalize xF 7 = yy7 at *
    try generalize xF 8 = yy8 at *
    try generalize xF 9 = yy9 at *
    try generalize xF 10 = yy10 at *
    try generalize xF 11 = yy11 at *
    try generalize xF 12 = yy12 at *
    try generalize xF 13 = yy13 at *
    try generalize xF 14 = yy14 at *
    try generalize xF 15 = yy15 at *
    try generalize xF 16 = yy16 at *
    try generalize xF 17 = yy17 at *
    try generalize xF 18 = yy18 at *
    try generalize xF 19 = yy19 at *
    try generalize xF 20 = yy20 at *
    try generalize xF 21 = yy21 at *
    try generalize xF 22 = yy22 at *
    try generalize xF 23 = yy23 at *
    try generalize xF 24 = yy24 at *
    try generalize xF 25 = yy25 at *
    try generalize xF 26 = yy26 at *
    try generalize xF 27 = yy27 at *
    try generalize xF 28 = yy28 at *
    try generalize xF 29 = yy29 at *
    try generalize xF 30 = yy30 at *
    try generalize xF 31 = yy31 at *
    try generalize xF 32 = yy32 at *
    try generalize xF 33 = yy33 at *
    try generalize xF 34 = yy34 at *
    try generalize xF 35 = yy35 at *
    try generalize xF 36 = yy36 at *
    try generalize xF 37 = yy37 at *
    try generalize xF 38 = yy38 at *
    try generalize xF 39 = yy39 at *
    try generalize xF 40 = yy40 at *
    try generalize xF 41 = yy41 at *
    try generalize xF 42 = yy42 at *
    try generalize xF 43 = yy43 at *
    try generalize xF 44 = yy44 at *
    try generalize xF 45 = yy45 at *
    try generalize xF 46 = yy46 at *
    try generalize xF 47 = yy47 at *
    try generalize xF 48 = yy48 at *
    try generalize xF 49 = yy49 at *
    try generalize xF 50 = yy50 at *
    try generalize xF 51 = yy51 at *
    try generalize xF 52 = yy52 at *
    try generalize xF 53 = yy53 at *
    try generalize xF 54 = yy54 at *
    try generalize xF 55 = yy55 at *
    try generalize xF 56 = yy56 at *
    try generalize xF 57 = yy57 at *
    try generalize xF 58 = yy58 at *
    try generalize xF 59 = yy59 at *
    try generalize xF 60 = yy60 at *
    try generalize xF 61 = yy61 at *
    clear xF
    obtain rfl := dd0
    obtain rfl := dd1
    obtain rfl := dd2
    obtain rfl := dd3
    obtain rfl := dd4
    obtain rfl := dd5
    obtain rfl := dd6
    obtain rfl := dd7
    obtain rfl := dd8
    obtain rfl := dd9
    obtain rfl := dd10
    obtain rfl := dd11
    obtain rfl := dd12
    obtain rfl := dd13
    obtain rfl := dd14
    obtain rfl := dd15
    obtain rfl := dd16
    obtain rfl := dd17
    obtain ⟨c18, rfl, hc18⟩ := dd18
    obtain rfl := dd19
    obtain rfl := dd20
    obtain ⟨c21, rfl, hc21⟩ := dd21
    obtain rfl := dd22
    obtain rfl := dd23
    obtain rfl := dd24
    obtain rfl := dd25
    obtain ⟨c26, rfl, hc26⟩ := dd26
    obtain rfl := dd27
    obtain ⟨c28, rfl, hc28⟩ := dd28
    obtain rfl := dd29
    obtain rfl := dd30
    obtain rfl := dd31
    obtain rfl := dd32
    have hn33 := dd33
    obtain rfl := dd34
    have hn35 := dd35
    obtain rfl := dd36
    obtain rfl := dd37
    obtain rfl := dd38
    obtain rfl := dd39
    obtain ⟨g40, rfl, hg40⟩ := dd40
    obtain ⟨c41, rfl, hc41⟩ := dd41
    obtain rfl := dd42
    obtain ⟨g43, rfl, hg43⟩ := dd43
    obtain ⟨c44, rfl, hc44⟩ := dd44
    obtain rfl := dd45
    obtain rfl := dd46
    obtain rfl := dd47
    obtain rfl := dd48
    obtain rfl := dd49
    obtain ⟨g50, rfl, hg50⟩ := dd50
    obtain ⟨c51, rfl, hc51⟩ := dd51
    obtain rfl := dd52
    obtain rfl := dd53
    obtain ⟨g54, rfl, hg54⟩ := dd54
    obtain ⟨c55, rfl, hc55⟩ := dd55
    obtain rfl := dd56
    obtain rfl := dd57
    obtain rfl := dd58
    obtain rfl := dd59
    obtain rfl := dd60
    obtain rfl := dd61
    have hRE := Lib.hid hR
    clear hR
    go_wp2
    go_ret
    exact ⟨rfl, BB.out.trans (hRE.out.mono BB.out.size)⟩
end Go.Proofs.Ytojngbobecdpeaa
namespace Go.Proofs.Ytojngbobecdpeaa.lawCursorCalls
open Go.ChangeShapes Go.WideShapes Go.ChangeAt Go.RowKit

theorem own : ownKnob Try.prog.godebug = none := by kernel_rfl
theorem laidOut : laidOutB Try.prog = true := by kernel_rfl
theorem params : ∀ t ∈ Try.f3.params.toList, Try.prog.readableRec t = true ∧ t < Try.prog.types.size := by
  rw [Try.params3]
  intro t ht
  simp only [List.mem_cons, List.not_mem_nil, or_false] at ht
  rcases ht with rfl | rfl
  all_goals exact ⟨by kernel_rfl, of_decide_eq_true (by kernel_rfl)⟩
theorem contract (H : Type) (enc : TypeId × Value → H) (W : World) (base : Nat) (args : Array Value) (ds gs : List (DataW H)) (before : List MemPlace)
    (hval : ∀ (j : Nat) t v, Try.f3.params[j]? = some t → args[j]? = some v → Value.okWide Try.prog W .any base t v)
    (hW : DataW.Whole enc Try.prog Try.f3.params.toList Rows.cursorCallsSpec.vars false W args.toList ds gs before) :
    Calls Try.prog 3 args W fun e W' => ∃ v, e = .returned v ∧ Rows.cursorCallsSpec.post enc Try.prog Try.f3 false true false false W args v W' := by
  have hW' := hW
  obtain ⟨p, q, hA0, hV, rfl, _, _⟩ := hW
  have hA : DataW.TrodAll enc Try.prog W 0 (fun _ => true) true Try.f3.params.toList args.toList ds p := hA0
  rw [Try.params3] at hA hval
  obtain ⟨v0, vs0, d0, ds0, p0, q0, hargs, rfl, rfl, h0, r0⟩ := trodAll_cons hA
  obtain ⟨v1, vs1, d1, ds1, p1, q1, rfl, rfl, rfl, h1, r1⟩ := trodAll_cons r0
  obtain ⟨rfl, rfl, rfl⟩ := trodAll_nil r1
  obtain rfl : args = #[v0, v1] := by cases args; simp_all
  obtain ⟨rfl, rfl⟩ := trodVars_none hV
  obtain ⟨e0, c0, x0, rfl, hcu0, hrg0⟩ := open_curD (hval 0 25 v0 rfl rfl) h0
  obtain ⟨a1, rfl, rfl, rfl, wf1⟩ := open_int Try.underlying3 (hval 1 3 v1 rfl rfl) h1
  clear hA0
  refine (calls_any e0 x0 c0 a1 W hcu0 hrg0).mono fun e W' ⟨he, hb⟩ => ⟨_, he, ?_⟩
  exact close.law_post laidOut params rfl rfl Try.underlying4 hW' rfl hb

set_option maxRecDepth 100000 in
theorem lifted (os : Os) (started : os.Started) (H : Type) (enc : TypeId × Value → H) :
    ReturnsInHanded {} Try.checked os 3 .any (Rows.cursorCallsSpec.pre6 enc Try.prog Try.f3 Rows.cursorCallsRow.domain false) (Rows.cursorCallsSpec.post enc Try.prog Try.f3 false true false false) := by
  refine returnsInHanded_of_change (C := Try.checked) own started (by kernel_rfl) Try.func3
    (ChangeSpec.witness6 (enc := enc) (C := Try.checked) false ⟨#[], #[.agg #[.int .i64 0, .slice none 0 0, .int .i64 0, .slice none 0 0], .int .i64 0], []⟩ 8 (by kernel_rfl) (by kernel_rfl) (by kernel_rfl) (by kernel_rfl)) ?_
  intro W base args ds gs before hval hW _ _
  exact contract H enc W base args ds gs before hval hW

theorem said : Rows.CursorCallsSaid :=
  OpenClaim.holds_of_wide 3 Try.f3 rfl rfl rfl rfl rfl rfl rfl ⟨rfl, rfl, rfl, rfl, rfl⟩ rfl rfl rfl rfl rfl (by kernel_rfl) Try.func3 (by kernel_rfl)
    (of_decide_eq_true (by kernel_rfl)) (by unfold Func.isWrapper; first | (rw [if_pos (by decide +kernel)]; kernel_rfl) | (rw [if_neg (by decide +kernel)]; exact ⟨rfl, rfl⟩))
    (fun os started H enc _ => lifted os started H enc)
end Go.Proofs.Ytojngbobecdpeaa.lawCursorCalls
