/- codec's law: CodecReads. -/
import Derived.Test.YtghbkieflifegaaCdQ7
import Derived.Test.YtghbkieflifegaaCdAwk
namespace Go.Proofs.Ytghbkieflifegaa
open Go.RowKit Go.ChangeShapes cl
def mOf : Except Nat cd.Msg → cd.Msg
  | .ok m => m
  | .error _ => zeroM
def kOf : Except Nat cd.Msg → Nat
  | .ok _ => 0
  | .error k => k
/-- what is read, in one form -/
def OneR (m : cd.Msg) (k : Nat) (w : World) (e : Ending) (w' : World) : Prop := ∃ c, e = .returned (.tuple #[.agg (List.toArray c), .int .i64 (k : Int)]) ∧ msgRel w' w'.heap.size c m ∧ Below w.heap.size w w'
theorem ReadAns.one {r : Except Nat cd.Msg} {w w' : World} {e : Ending} (h : ReadAns r w e w') : OneR (mOf r) (kOf r) w e w' := by
  obtain ⟨hb, ⟨m, c, rfl, he, hm⟩ | ⟨k, rfl, _, he⟩⟩ := h
  · exact ⟨c, he, hm.at, hb⟩
  · exact ⟨zeroC.toList, he, zero_at w' _, hb⟩
set_option maxHeartbeats 6400000 in
set_option maxRecDepth 100000 in
theorem reads_any (s : ByteArray) (w : World) (hs : s.size ≤ maxLen) : Calls Try.prog 4 #[.string s] w (Said true w) := by
  have HAW : Hid (∀ W : World, Calls Try.prog 9 #[] W (Said true W)) := awake_any
  have HS : s.size ≤ maxLen := hs
  unfold maxLen at hs
  by_cases h9 : 9000 < s.size
  · have h9i : (9000 : Int) < (s.size : Int) := by omega
    go_enter Try.func4, Try.ntmps4
    go_wp2_with fail
    (with_reducible refine (HAW.out _).mono ?_)
    rintro e w1 ⟨rfl, b1⟩
    go_wp2
    go_ret
    exact ⟨rfl, b1⟩
  · have h9i : ¬ (9000 : Int) < (s.size : Int) := by omega
    obtain ⟨r, hr⟩ : ∃ r, r = cd.read (kit.bytes s) := ⟨_, rfl⟩
    obtain ⟨M, hM⟩ : ∃ M, M = mOf r := ⟨_, rfl⟩
    obtain ⟨K, hK⟩ : ∃ K, K = kOf r := ⟨_, rfl⟩
    have HA : Hid (∀ W : World, Calls Try.prog 12 #[.string s] W (OneR M K W)) := fun W => by
      have := (read_any s W (by omega)).mono (fun e w' h => ReadAns.one h)
      rw [← hr, ← hM, ← hK] at this; exact this
    have HR : Hid (∀ W : World, Calls Try.prog 13 #[.string s] W (OneR M K W)) := fun W => by
      have := (qread s W (by omega)).mono (fun e w' h => ReadAns.one h)
      rw [← hr, ← hM, ← hK] at this; exact this
    clear hr hM hK h9 hs
    go_enter Try.func4, Try.ntmps4
    go_wp2_with fail
    (with_reducible refine (HA.out _).mono ?_)
    rintro e w1 ⟨cx, rfl, hm, b1⟩
    have HM1 := Lib.hid hm
    obtain ⟨xa0, xn0, xc0, xa1, xn1, xc1, xa2, xn2, xc2, xa3, xn3, xc3, xa4, xn4, xc4, xa5, xn5, xc5, xa6, xn6, xc6, rfl, _, _, _, _, _, _, _, _, _⟩ := hm
    have HB1 := Lib.hid (((Bxs.nil w).call b1).add 33 [.int .i64 M.k, .int .i64 M.f, .int .i64 M.to, .int .i64 M.g, .int .i64 M.n, .slice xa0 xn0 xc0, .slice xa1 xn1 xc1, .slice xa2 xn2 xc2, .slice xa3 xn3 xc3, .slice xa4 xn4 xc4, .slice xa5 xn5 xc5, .int .i64 M.ki, .string M.mn, .string M.mv, .slice xa6 xn6 xc6, .int .i64 M.er] rfl)
    have HX1 : Hid (Below w1.heap.size w1 (w1.alloc (.cells ([.int .i64 M.k, .int .i64 M.f, .int .i64 M.to, .int .i64 M.g, .int .i64 M.n, .slice xa0 xn0 xc0, .slice xa1 xn1 xc1, .slice xa2 xn2 xc2, .slice xa3 xn3 xc3, .slice xa4 xn4 xc4, .slice xa5 xn5 xc5, .int .i64 M.ki, .string M.mn, .string M.mv, .slice xa6 xn6 xc6, .int .i64 M.er] : List Value).toArray 33))) := below1
    clear b1
    go_wp2_with fail
    (with_reducible refine (HR.out _).mono ?_)
    rintro e w2 ⟨cy, rfl, hm, b2⟩
    have HM2 := Lib.hid hm
    obtain ⟨ya0, yn0, yc0, ya1, yn1, yc1, ya2, yn2, yc2, ya3, yn3, yc3, ya4, yn4, yc4, ya5, yn5, yc5, ya6, yn6, yc6, rfl, _, _, _, _, _, _, _, _, _⟩ := hm
    have HX2 := Lib.hid (HX1.out.trans (b2.mono HX1.out.size))
    have HB2 := Lib.hid ((HB1.out.call b2).add 33 [.int .i64 M.k, .int .i64 M.f, .int .i64 M.to, .int .i64 M.g, .int .i64 M.n, .slice ya0 yn0 yc0, .slice ya1 yn1 yc1, .slice ya2 yn2 yc2, .slice ya3 yn3 yc3, .slice ya4 yn4 yc4, .slice ya5 yn5 yc5, .int .i64 M.ki, .string M.mn, .string M.mv, .slice ya6 yn6 yc6, .int .i64 M.er] rfl)
    clear b2
    have HX3 : Hid (Below w2.heap.size w2 (w2.alloc (.cells ([.int .i64 M.k, .int .i64 M.f, .int .i64 M.to, .int .i64 M.g, .int .i64 M.n, .slice ya0 yn0 yc0, .slice ya1 yn1 yc1, .slice ya2 yn2 yc2, .slice ya3 yn3 yc3, .slice ya4 yn4 yc4, .slice ya5 yn5 yc5, .int .i64 M.ki, .string M.mn, .string M.mv, .slice ya6 yn6 yc6, .int .i64 M.er] : List Value).toArray 33))) := below1
    have HMa := Lib.hid (msgRel_steady _ _ _ (w2.alloc (.cells ([.int .i64 M.k, .int .i64 M.f, .int .i64 M.to, .int .i64 M.g, .int .i64 M.n, .slice ya0 yn0 yc0, .slice ya1 yn1 yc1, .slice ya2 yn2 yc2, .slice ya3 yn3 yc3, .slice ya4 yn4 yc4, .slice ya5 yn5 yc5, .int .i64 M.ki, .string M.mn, .string M.mv, .slice ya6 yn6 yc6, .int .i64 M.er] : List Value).toArray 33)).heap.size _ _ HM1.out (HX2.out.trans (HX3.out.mono HX2.out.size)) (Nat.le_trans HX2.out.size HX3.out.size))
    have HMb := Lib.hid (msgRel_steady _ _ _ (w2.alloc (.cells ([.int .i64 M.k, .int .i64 M.f, .int .i64 M.to, .int .i64 M.g, .int .i64 M.n, .slice ya0 yn0 yc0, .slice ya1 yn1 yc1, .slice ya2 yn2 yc2, .slice ya3 yn3 yc3, .slice ya4 yn4 yc4, .slice ya5 yn5 yc5, .int .i64 M.ki, .string M.mn, .string M.mv, .slice ya6 yn6 yc6, .int .i64 M.er] : List Value).toArray 33)).heap.size _ _ HM2.out HX3.out HX3.out.size)
    have p0 := boxc (HB2.out.at 1 rfl) 0 (.int .i64 M.k) rfl
    have p1 := boxc (HB2.out.at 1 rfl) 1 (.int .i64 M.f) rfl
    have p2 := boxc (HB2.out.at 1 rfl) 2 (.int .i64 M.to) rfl
    have p3 := boxc (HB2.out.at 1 rfl) 3 (.int .i64 M.g) rfl
    have p4 := boxc (HB2.out.at 1 rfl) 4 (.int .i64 M.n) rfl
    have p5 := boxc (HB2.out.at 1 rfl) 5 (.slice xa0 xn0 xc0) rfl
    have p6 := boxc (HB2.out.at 1 rfl) 6 (.slice xa1 xn1 xc1) rfl
    have p7 := boxc (HB2.out.at 1 rfl) 7 (.slice xa2 xn2 xc2) rfl
    have p8 := boxc (HB2.out.at 1 rfl) 8 (.slice xa3 xn3 xc3) rfl
    have p9 := boxc (HB2.out.at 1 rfl) 9 (.slice xa4 xn4 xc4) rfl
    have p10 := boxc (HB2.out.at 1 rfl) 10 (.slice xa5 xn5 xc5) rfl
    have p11 := boxc (HB2.out.at 1 rfl) 11 (.int .i64 M.ki) rfl
    have p12 := boxc (HB2.out.at 1 rfl) 12 (.string M.mn) rfl
    have p13 := boxc (HB2.out.at 1 rfl) 13 (.string M.mv) rfl
    have p14 := boxc (HB2.out.at 1 rfl) 14 (.slice xa6 xn6 xc6) rfl
    have p15 := boxc (HB2.out.at 1 rfl) 15 (.int .i64 M.er) rfl
    have r0 := boxc (HB2.out.at 0 rfl) 0 (.int .i64 M.k) rfl
    have r1 := boxc (HB2.out.at 0 rfl) 1 (.int .i64 M.f) rfl
    have r2 := boxc (HB2.out.at 0 rfl) 2 (.int .i64 M.to) rfl
    have r3 := boxc (HB2.out.at 0 rfl) 3 (.int .i64 M.g) rfl
    have r4 := boxc (HB2.out.at 0 rfl) 4 (.int .i64 M.n) rfl
    have r5 := boxc (HB2.out.at 0 rfl) 5 (.slice ya0 yn0 yc0) rfl
    have r6 := boxc (HB2.out.at 0 rfl) 6 (.slice ya1 yn1 yc1) rfl
    have r7 := boxc (HB2.out.at 0 rfl) 7 (.slice ya2 yn2 yc2) rfl
    have r8 := boxc (HB2.out.at 0 rfl) 8 (.slice ya3 yn3 yc3) rfl
    have r9 := boxc (HB2.out.at 0 rfl) 9 (.slice ya4 yn4 yc4) rfl
    have r10 := boxc (HB2.out.at 0 rfl) 10 (.slice ya5 yn5 yc5) rfl
    have r11 := boxc (HB2.out.at 0 rfl) 11 (.int .i64 M.ki) rfl
    have r12 := boxc (HB2.out.at 0 rfl) 12 (.string M.mn) rfl
    have r13 := boxc (HB2.out.at 0 rfl) 13 (.string M.mv) rfl
    have r14 := boxc (HB2.out.at 0 rfl) 14 (.slice ya6 yn6 yc6) rfl
    have r15 := boxc (HB2.out.at 0 rfl) 15 (.int .i64 M.er) rfl
    have HSM := Lib.hid (same_eq M _ _ _ HMa.out HMb.out)
    go_wp2_with fail
    (with_reducible refine HSM.out.mono ?_)
    rintro e w3 ⟨rfl, b3⟩
    have HZ := Lib.hid (HB2.out.call b3)
    clear b3 p0 r0 p1 r1 p2 r2 p3 r3 p4 r4 p5 r5 p6 r6 p7 r7 p8 r8 p9 r9 p10 r10 p11 r11 p12 r12 p13 r13 p14 r14 p15 r15
    go_wp2_with fail
    (with_reducible refine (HAW.out _).mono ?_)
    rintro e w4 ⟨rfl, b4⟩
    go_wp2
    go_ret
    exact ⟨rfl, (HZ.out.call b4).1⟩
end Go.Proofs.Ytghbkieflifegaa
