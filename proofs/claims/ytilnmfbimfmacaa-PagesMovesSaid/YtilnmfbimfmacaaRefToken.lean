/- the document's Token. -/
import Derived.Test.YtilnmfbimfmacaaToken
namespace Go.Proofs.Ytilnmfbimfmacaa
open Go.RowKit Go.ChangeShapes Go.Joins cl

set_option maxHeartbeats 800000 in
theorem hex_any (p : Nat) (h : p < 16) (w : World) :
    Calls Try.prog 26 #[.int .i64 (p : Int)] w fun e w' => e = .returned (.int .u8 (tk.hexd p : Nat)) ∧ w' = w := by
  by_cases h10 : p < 10
  · have HD : Hid (tk.hexd p = 48 + p) := by show _ = _; unfold tk.hexd; rw [if_pos h10]
    have w1 : IntKind.u8.wrap (48 + (p : Int)) = 48 + (p : Int) := IntWalk.u8_in _ (by omega)
    go_enter Try.func26, Try.ntmps26
    go_wp2
    go_ret
    rw [HD.out]; exact ⟨by rw [Int.natCast_add]; rfl, rfl⟩
  · have HD : Hid (tk.hexd p = 87 + p) := by show _ = _; unfold tk.hexd; rw [if_neg h10]
    have w1 : IntKind.u8.wrap (97 + (p : Int) - 10) = 97 + (p : Int) - 10 := IntWalk.u8_in _ (by omega)
    go_enter Try.func26, Try.ntmps26
    go_wp2
    go_ret
    rw [HD.out]; exact ⟨congrArg (fun z => Ending.returned (.int .u8 z)) (show (97 : Int) + (p : Int) - 10 = ((87 + p : Nat) : Int) by omega), rfl⟩

set_option maxHeartbeats 1600000 in
set_option maxRecDepth 100000 in
theorem rtoken_any (lv : Value) (a : ByteArray) (more : Bool) (w : World) (hs : a.size ≤ 3000) :
    Calls Try.prog 20 #[.agg #[lv, .string a, .bool more]] w (Txt (tk.token (kit.bytes a) more) w) := by
  cases more with
  | false =>
    go_enter Try.func20, Try.ntmps20
    go_wp2
    go_ret
    exact ⟨rfl, (Below.refl _ _).alloc (Nat.le_refl _) _⟩
  | true =>
    have hA : Below w.heap.size w (w.alloc (.cells #[lv, .string a, .bool true] 26)) := (Below.refl _ _).alloc (Nat.le_refl _) _
    have HL := Lib.hid (kit.bytes_len a)
    go_enter Try.func20, Try.ntmps20
    go_wp2
    have hown0 : ((w.alloc (.cells #[lv, .string a, .bool true] 26)).alloc (.cells #[.int .u8 112] 5)).ownsRow (w.alloc (.cells #[lv, .string a, .bool true] 26)).heap.size 5 1 (.slice (some ⟨(w.alloc (.cells #[lv, .string a, .bool true] 26)).heap.size, 0, none⟩) 1 1) (tkl a 0).length (kit.u8s (tkl a 0)) :=
      World.ownsRow_lit _ _ _ (Nat.le_refl _) (by simp [maxLen]) rfl
    have hR : Below (w.alloc (.cells #[lv, .string a, .bool true] 26)).heap.size (w.alloc (.cells #[lv, .string a, .bool true] 26)) ((w.alloc (.cells #[lv, .string a, .bool true] 26)).alloc (.cells #[.int .u8 112] 5)) := (Below.refl _ _).alloc (Nat.le_refl _) _
    go_loopw [3, 4, 12] (fun v _ i wr => ∃ k : Nat, i = .int .i64 k ∧ k ≤ a.size ∧ Hid (wr.ownsRow (w.heap.size + 1) 5 1 v (tkl a k).length (kit.u8s (tkl a k))) ∧ Below (w.heap.size + 1) (w.alloc (.cells #[lv, .string a, .bool true] 26)) wr) (fun _ _ i _ => a.size - (intOf i).toNat)
    case atStart => exact ⟨0, rfl, by omega, by show World.ownsRow _ _ _ _ _ _ _; simpa using hown0, by simpa using hR⟩
    case round =>
      obtain ⟨k, rfl, hk, HO, hbl⟩ := hrel
      have p1 : wr.cell? ⟨w.heap.size, 1, none⟩ = some (.string a) := (hbl.cell (p := ⟨w.heap.size, 1, none⟩) (Nat.lt_succ_self _)).trans (by rw [World.cell?_alloc_at _ _ _ _ rfl]; rfl)
      by_cases hlt : k < a.size
      · have hkI : (k : Int) < (a.size : Int) := by omega
        have h256 : a[k].toNat < 256 := a[k].toNat_lt
        have h16 : a[k].toNat / 16 < 16 := by omega
        have h17 : a[k].toNat % 16 < 16 := by omega
        obtain ⟨p, hp⟩ : ∃ p, p = a[k].toNat / 16 := ⟨_, rfl⟩
        obtain ⟨q, hq⟩ : ∃ q, q = a[k].toNat % 16 := ⟨_, rfl⟩
        rw [← hp] at h16
        rw [← hq] at h17
        have w0 : IntKind.i64.wrap (a[k].toNat : Int) = (a[k].toNat : Int) := IntWalk.i64_in _ (by omega)
        have w1 : IntKind.i64.wrap (((a[k].toNat : Int)).tdiv 16) = (p : Int) := by
          rw [show ((a[k].toNat : Int)).tdiv 16 = ((a[k].toNat / 16 : Nat) : Int) from rfl, ← hp]; exact IntWalk.i64_in _ (by omega)
        have w3 : ((a[k].toNat : Int)) / 16 = (p : Int) := by omega
        have w5 : IntKind.i64.wrap (p : Int) = (p : Int) := IntWalk.i64_in _ (by omega)
        have w6 : IntKind.i64.wrap (q : Int) = (q : Int) := IntWalk.i64_in _ (by omega)
        have w2 : ((a[k].toNat : Int)).tmod 16 = (q : Int) := by rw [hq]; rfl
        have w4 : ((a[k].toNat : Int)) % 16 = (q : Int) := by omega
        obtain ⟨dp, hdp⟩ : ∃ d, d = tk.hexd p := ⟨_, rfl⟩
        obtain ⟨dq, hdq⟩ : ∃ d, d = tk.hexd q := ⟨_, rfl⟩
        have R1 : Hid (∀ W : World, Calls Try.prog 26 #[.int .i64 (p : Int)] W fun e w' => e = .returned (.int .u8 (dp : Int)) ∧ w' = W) := fun W => by rw [hdp]; exact hex_any p h16 W
        have R2 : Hid (∀ W : World, Calls Try.prog 26 #[.int .i64 (q : Int)] W fun e w' => e = .returned (.int .u8 (dq : Int)) ∧ w' = W) := fun W => by rw [hdq]; exact hex_any q h17 W
        have HDP := Lib.hid hdp
        have HDQ := Lib.hid hdq
        clear hdp hdq
        have HP := Lib.hid hp
        have HQ := Lib.hid hq
        clear hp hq
        have hln := tkl_len a k
        have hzq := hbl.size
        simp only [World.size_alloc] at hzq
        have HST := Lib.hid (tkl_step hlt)
        have HLT := Lib.hid HO.out.lt
        obtain ⟨i0, hi0, hz0, hz1, hz2⟩ := info_parts infoByte
        have hn : (tkl a k).length + 2 ≤ maxLen := by unfold maxLen; omega
        have hb : ((tkl a k).length + 2) * 1 ≤ 140737488355328 := by omega
        have ag : u3.ownBlock ≠ some w.heap.size := fun e => by have := (HLT.out _ e).1; omega
        have HN := Lib.hid (two_at (w := wr) (dp : Int) (dq : Int) 5 ⟨wr.heap.size, 0, none⟩ rfl)
        go_wp2_with fail
        go_region_held3 (fun w' => w'.cell? ⟨w.heap.size, 1, none⟩ = some (.string a))
          (first
            | go_keep
            | assumption
            | (rw [hgrow.cell_far _ (by simp; omega) (Ne.symm ag)]; assumption))
          (first
            | (go_at_call 26; (with_reducible refine (R1.out _).mono ?_); rintro e wK ⟨rfl, rfl⟩)
            | (go_at_call 26; (with_reducible refine (R2.out _).mono ?_); rintro e wK ⟨rfl, rfl⟩)
            | (refine step_append_lies _ (by rfl) _ _ _ (by rfl) (w.heap.size + 1) 5 i0 _ 1 1 Try.underlying43 hi0 hz0 hz1 hz2 rfl (by omega) u3 _ _ (by rfl) ((HO.out.alloc _).drew) ⟨wr.heap.size, 0, none⟩ 2 2 [.int .u8 (dp : Int), .int .u8 (dq : Int)] (by rfl) (by rfl) HN.out (two_one _ _) (by omega) hn hb (by simp; omega) (wr.heap.size + 1) (by simp) ?_; intro gg cap w5 hown' hgrow hat hlt5)
            | fail)
        all_goals
          have HO5 : Hid (w5.ownsRow (w.heap.size + 1) 5 1 (.slice (some ⟨gg, 0, none⟩) ((tkl a k).length + 2) cap) (tkl a (k + 1)).length (kit.u8s (tkl a (k + 1)))) := by
            show World.ownsRow _ _ _ _ _ _ _
            rw [HST.out, List.length_append, kit.u8s_app, ← HP.out, ← HQ.out, ← HDP.out, ← HDQ.out]; exact hown'
          have hbl5 : Below (w.heap.size + 1) (w.alloc (.cells #[lv, .string a, .bool true] 26)) w5 := ((hbl.alloc hzq _).drew).grown hgrow (by simp; omega) (fun k hk => (HLT.out k hk).1)
          clear hown' hgrow R1 R2 hi0 hz0 hz1 hz2
          go_wp2
          go_roundw
          case rel => exact ⟨k + 1, by go_num, by omega, HO5.out, hbl5⟩
          case measure => simp [intOf]; omega
      · have HE : Hid (tkl a k = tk.token (kit.bytes a) true) := tkl_all (by omega)
        have hconv := kit.run_string (P := Try.prog) (src := 43) (dst := 9) Try.underlying43 Try.underlying5 Try.underlying9 HO.out
        have hfin : Below w.heap.size w wr := hA.trans (hbl.mono (Nat.le_succ _))
        go_wp2
        go_ret
        rw [← HE.out]; exact ⟨rfl, hfin⟩
end Go.Proofs.Ytilnmfbimfmacaa
