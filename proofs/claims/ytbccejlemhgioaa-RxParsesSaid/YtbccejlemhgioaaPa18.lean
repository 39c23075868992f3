/- texts put together: RrCla. -/
import Derived.Test.YtbccejlemhgioaaPa02
import Derived.Test.YtbccejlemhgioaaPa12
import Derived.Test.YtbccejlemhgioaaPa16
import Derived.Test.YtbccejlemhgioaaPa17
import Derived.Deep.DeepCutAuto
namespace Go.Proofs.Ytbccejlemhgioaa
open Go Go.RowKit Go.ChangeShapes cl rx
open rf
def RrA (d : Nat) (S : ByteArray) (m : rr.R × Pat) (w : World) (e : Ending) (w' : World) : Prop := ∃ c, e = .returned (.tuple #[.agg #[.string S, .int .i64 ((m.1).p : Int), .int .i64 (m.1).co], .agg (List.toArray c)]) ∧ Fre w.heap.size w' (fun W => rxR d W W.heap.size c m.2) ∧ Below w.heap.size w w'
theorem RrA.leaf {d : Nat} {S : ByteArray} {m : rr.R × Pat} {r : rr.R} {k : Int} {cl : Cls} {w w' : World} (h : m = (r, .mk k cl [] 0 0)) (hb : Below w.heap.size w w') : RrA (d + 1) S m w (.returned (.tuple #[.agg #[.string S, .int .i64 ((r).p : Int), .int .i64 (r).co], .agg #[.int .i64 k, .int .u64 cl.a, .int .u64 cl.b, .int .u64 cl.c, .int .u64 cl.d, .slice none 0 0, .int .i64 0, .int .i64 0]])) w' := by
 subst h
 exact ⟨_, rfl, fun _ _ _ => rx_leaf, hb⟩
def muR (q N : Nat) (W : World) : Nat := match W.cell? ⟨q, 2, none⟩, W.cell? ⟨q, 1, none⟩ with
 | some (.int _ c), some (.int _ p) => if c = 0 then N + 1 - p.toNat else 0
 | _, _ => 0
theorem muR_at {S : ByteArray} {r : rr.R} {W : World} {q N : Nat} (h : W.heap[q]? = some (.cells #[.string S, .int .i64 ((r).p : Int), .int .i64 (r).co] 48 (0, 0))) : muR q N W = if r.co = 0 then N + 1 - r.p else 0 := by
 unfold muR
 rw [boxc h 2 _ rfl, boxc h 1 _ rfl]
 simp
theorem more_yes {s : List Nat} {r : rr.R} (h : r.co = 0) (hp : r.p < s.length) : rr.more s r = true := decide_eq_true ⟨h, hp⟩
theorem more_no {s : List Nat} {r : rr.R} (h : ¬ (r.co = 0 ∧ r.p < s.length)) : rr.more s r = false := decide_eq_false h
theorem cur_at {s : List Nat} {r : rr.R} {c : Nat} (h : r.co = 0) (hc : s[r.p]? = some c) : rr.cur s r = some c := by unfold rr.cur; rw [if_pos h, hc]
theorem cur_no {s : List Nat} {r : rr.R} (h : ¬ (r.co = 0 ∧ r.p < s.length)) : rr.cur s r = none := by
 unfold rr.cur
 by_cases h0 : r.co = 0
 ·
  rw [if_pos h0]; exact List.getElem?_eq_none (Nat.le_of_not_lt (fun hp => h ⟨h0, hp⟩))
 ·
  rw [if_neg h0]
theorem member_okk {s : List Nat} (hs : ∀ c ∈ s, c < 256) {r : rr.R} {c : Nat} (h0 : r.co = 0) (hc : s[r.p]? = some c) (h9 : c ≠ 93) : (rr.member s r).2.1.ok ∧ (rr.member s r).2.2.1 < 256 := by
 have h := (rr.single_rel s (t := ⟨r.p, 0, 0⟩) ⟨h0, rfl, rfl⟩ hc h9).2
 rw [h]
 exact single_ok hs _
def clsT (s : List Nat) (a : Nat) (n : Bool) (m : Cls × rr.R) : rr.R × Pat :=
 if m.2.co ≠ 0 then (m.2, .zero) else
 if s.length ≤ m.2.p then (m.2.fail a 9, .zero) else
 if (if n = true then rf.oth m.1 else m.1) = .zero then (m.2.fail a 9, .zero) else (m.2.fwd, Pat.ofCls (if n = true then rf.oth m.1 else m.1))
theorem cls_eqT (s : List Nat) (r : rr.R) : rr.cls s r = clsT s r.p (decide (s[r.fwd.p]? = some 94)) (rr.mems s (s.length + 1) .zero (if decide (s[r.fwd.p]? = some 94) = true then r.fwd.fwd else r.fwd)) := rfl
theorem mems_93 (s : List Nat) (f : Nat) (x : Cls) {r : rr.R} (h : rr.cur s r = some 93) : rr.mems s (f + 1) x r = (x, r) := by rw [rr.mems, h]; rfl
theorem clsT_a {s : List Nat} {a : Nat} {n : Bool} {x : Cls} {r : rr.R} (h : r.co ≠ 0) : clsT s a n (x, r) = (r, .mk 0 .zero [] 0 0) := if_pos h
theorem clsT_b {s : List Nat} {a : Nat} {n : Bool} {x : Cls} {r : rr.R} (h : r.co = 0) (h2 : s.length ≤ r.p) : clsT s a n (x, r) = (r.fail a 9, .mk 0 .zero [] 0 0) := by unfold clsT; rw [if_neg (fun k => k h), if_pos h2]; rfl
theorem clsT_c {s : List Nat} {a : Nat} {n : Bool} {x y : Cls} {r : rr.R} (h : r.co = 0) (h2 : ¬ s.length ≤ r.p) (hy : (if n = true then rf.oth x else x) = y) (h3 : y = .zero) : clsT s a n (x, r) = (r.fail a 9, .mk 0 .zero [] 0 0) := by unfold clsT; rw [if_neg (fun k => k h), if_neg h2, hy, if_pos h3]; rfl
theorem clsT_d {s : List Nat} {a : Nat} {n : Bool} {x y : Cls} {r : rr.R} (h : r.co = 0) (h2 : ¬ s.length ≤ r.p) (hy : (if n = true then rf.oth x else x) = y) (h3 : y ≠ .zero) : clsT s a n (x, r) = (r.fwd, .mk 2 y [] 0 0) := by unfold clsT; rw [if_neg (fun k => k h), if_neg h2, hy, if_neg h3]; rfl
set_option maxHeartbeats 25600000 in
set_option maxRecDepth 100000 in
set_option linter.unusedSimpArgs false in
theorem rr_class (S : ByteArray) (r : rr.R) (w : World) (hS : S.size ≤ 60) (hp : r.p < S.size) : Calls Try.prog 51 #[.agg #[.string S, .int .i64 ((r).p : Int), .int .i64 (r).co]] w (RrA 1 S (rr.cls (kit.bytes S) r) w) := by
 have hlen : (kit.bytes S).length = S.size := by simp [kit.bytes]
 have hs8 : ∀ c ∈ kit.bytes S, c < 256 := kit.bytes_lt S
 obtain ⟨m, hm⟩ : ∃ m, m = rr.cls (kit.bytes S) r := ⟨_, rfl⟩
 rw [← hm]
 rw [cls_eqT] at hm
 have HFA : Hid (∀ (x : rr.R) (a : Nat) (co : Int) (W : World), Calls Try.prog 23 #[.agg #[.string S, .int .i64 ((x).p : Int), .int .i64 (x).co], .int .i64 a, .int .i64 co] W (fun e w' => e = .returned (.agg #[.string S, .int .i64 (((x.fail a co)).p : Int), .int .i64 ((x.fail a co)).co]) ∧ Below W.heap.size W w')) := fun x a co W => rr_fail S x a co W
 obtain ⟨r1, hr1⟩ : ∃ x, x = r.fwd := ⟨_, rfl⟩
 have R1 := Lib.hid hr1
 have i1 : r1.p = r.p + 1 := by rw [hr1]; rfl
 have ii1 : (r.p : Int) + 1 = (r1.p : Int) := by omega
 have iw1 : IntKind.i64.wrap (r1.p : Int) = (r1.p : Int) := IntWalk.i64_in _ (by omega)
 have co1 : r.co = r1.co := by rw [hr1]; rfl
 rw [← hr1] at hm
 obtain ⟨b, hb⟩ : ∃ b, b = decide ((kit.bytes S)[r1.p]? = some 94) := ⟨_, rfl⟩
 rw [← hb] at hm
 have HB := Lib.hid hb
 obtain ⟨r2, hr2⟩ : ∃ x, x = (if b = true then r1.fwd else r1) := ⟨_, rfl⟩
 rw [← hr2] at hm
 have HR2 := Lib.hid hr2
 have h1S : Hid (r1.p ≤ S.size) := by show _ ≤ _; omega
 have h2S : r2.p ≤ S.size := by
  rw [hr2]
  split
  ·
   rename_i e
   rw [e] at hb
   have h5 := (List.getElem?_eq_some_iff.1 (of_decide_eq_true hb.symm)).1
   show r1.p + 1 ≤ _
   omega
  ·
   exact h1S.out
 rw [hlen] at hm
 obtain ⟨mx, mr, hfin⟩ : ∃ mx mr, rr.mems (kit.bytes S) (S.size + 1) .zero r2 = (mx, mr) := ⟨_, _, rfl⟩
 rw [hfin] at hm
 have HM := Lib.hid hm
 have HFIN := Lib.hid hfin
 have HLEN := Lib.hid hlen
 have HS8 := Lib.hid hs8
 clear hlen hm hr1 hb hr2 hfin hs8 i1
 obtain ⟨q, hq⟩ : ∃ x, x = w.heap.size := ⟨_, rfl⟩
 have L1 := Lib.hid ((Lop.nil w).add (q := q) 48 #[.string S, .int .i64 ((r1).p : Int), .int .i64 (r1).co] hq)
 obtain ⟨q2, hq2⟩ : ∃ x, x = w.heap.size + 1 := ⟨_, rfl⟩
 have L2 := Lib.hid (L1.out.add (q := q2) 48 #[.string ⟨#[]⟩, .int .i64 0, .int .i64 0] (by simp only [World.size_alloc]; exact hq2))
 obtain ⟨q3, hq3⟩ : ∃ x, x = w.heap.size + 1 + 1 := ⟨_, rfl⟩
 have L3 := Lib.hid (L2.out.add (q := q3) 28 #[.int .i64 0, .int .u64 0, .int .u64 0, .int .u64 0, .int .u64 0, .slice none 0 0, .int .i64 0, .int .i64 0] (by simp only [World.size_alloc]; exact hq3))
 obtain ⟨V4, hV4, L4⟩ := L3.out.nm
 replace L4 := Lib.hid L4; replace hV4 := Lib.hid hV4
 replace hq := Lib.hid hq
 replace hq2 := Lib.hid hq2
 replace hq3 := Lib.hid hq3
 go_enter Try.func51, Try.ntmps51
 go_upto_region 4 with (fail)
 rw [← hV4.out, ← hq3.out, ← hq2.out, ← hq.out]
 clear ii1 iw1 co1
 go_cut [35] (fun c wx => c = .bool b ∧ V4 = wx)
 case first =>
  obtain ⟨e5_0, e5_1, e5_2⟩ := box3 (L4.out.at (q := q) 0 rfl)
  by_cases hl : r1.p < S.size
  ·
   have jl : (r1.p : Int) < (S.size : Int) := by omega
   obtain ⟨z, hz⟩ : ∃ z, z = (S[r1.p]'hl).toNat := ⟨_, rfl⟩
   have hby : (kit.bytes S)[r1.p]? = some z := by rw [byte_at hl, hz]
   replace hz := hz.symm
   by_cases g : z = 94
   ·
    have HV : Hid (b = true) := by show _ = _; rw [HB.out, hby, g]; rfl
    have j : ((z : Int) == 94) = true := by rw [g]; rfl
    clear g hby
    go_wp2_with fail
    go_meet
    exact ⟨by rw [HV.out], rfl⟩
   ·
    have HV : Hid (b = false) := by show _ = _; rw [HB.out, hby]; exact decide_eq_false (fun h => g (Option.some.inj h))
    have j : ((z : Int) == 94) = false := beq_eq_false_iff_ne.2 (by omega)
    clear g hby
    go_wp2_with fail
    go_meet
    exact ⟨by rw [HV.out], rfl⟩
  ·
   have jl : ¬ (r1.p : Int) < (S.size : Int) := by omega
   have HV : Hid (b = false) := by show _ = _; rw [HB.out, byte_no (by omega)]; rfl
   go_wp2_with fail
   go_meet
   exact ⟨by rw [HV.out], rfl⟩
 case rest =>
  obtain ⟨rfl, rfl⟩ := hcut
  go_upto_if 35 with (fail)
  go_cut [5] (fun c wx => c = .bool b ∧ Lop w wx [(q, 48, #[.string S, .int .i64 ((r2).p : Int), .int .i64 (r2).co]), (q2, 48, #[.string ⟨#[]⟩, .int .i64 0, .int .i64 0]), (q3, 28, #[.int .i64 0, .int .u64 0, .int .u64 0, .int .u64 0, .int .u64 0, .slice none 0 0, .int .i64 0, .int .i64 0])] (fun _ => True))
  case first =>
   cases b with
   | true =>
    have HR : Hid (r2 = r1.fwd) := HR2.out.trans (if_pos rfl)
    have h1p := h1S.out
    have y5 := L4.out.at (q := q) 0 rfl
    have e5_1 := boxc y5 1 _ rfl
    have f5_1 := boxf y5 1
    have ip6 : (r1.p : Int) + 1 = (r2.p : Int) := by rw [HR.out]; rfl
    have iw6 : IntKind.i64.wrap (r2.p : Int) = (r2.p : Int) := IntWalk.i64_in _ (by omega)
    have iv6 : IntKind.i64.wrap ((r1.p : Int) + 1) = (r2.p : Int) := by rw [ip6]; exact iw6
    have L6 := Lib.hid (L4.out.cell (q := q) 0 rfl 1 (.int .i64 (r2.p : Int)) #[.string S, .int .i64 ((r2).p : Int), .int .i64 (r2).co] (by rw [HR.out]; rfl))
    go_wp2_with fail
    go_meet
    exact ⟨rfl, L6.out⟩
   | false =>
    have HR : Hid (r2 = r1) := HR2.out.trans (if_neg (by decide))
    go_wp2_with fail
    go_meet
    refine ⟨rfl, ?_⟩
    rw [HR.out]
    exact L4.out
  case rest =>
   obtain ⟨rfl, hL0⟩ := hcut
   have L0 := Lib.hid hL0
   clear hL0
   obtain ⟨q4, hq4⟩ : ∃ x, x = wc.heap.size := ⟨_, rfl⟩
   have L5 := Lib.hid (L0.out.add (q := q4) 25 #[.int .u64 0, .int .u64 0, .int .u64 0, .int .u64 0] hq4)
   obtain ⟨V6, hV6, L6⟩ := L5.out.nm
   replace L6 := Lib.hid L6; replace hV6 := Lib.hid hV6
   replace hq4 := Lib.hid hq4
   go_wp2
   rw [← hV6.out, ← hq4.out]
   go_loopw [] (fun wr => ∃ (f : Nat) (x : Cls) (rz : rr.R), Hid (rr.mems (kit.bytes S) f x rz = (mx, mr)) ∧ Hid (x.ok) ∧ rz.p ≤ S.size ∧ 1 ≤ f ∧ Hid (rz.co = 0 → S.size + 1 ≤ f + rz.p) ∧ Hid (Lop w wr [(q, 48, #[.string S, .int .i64 ((rz).p : Int), .int .i64 (rz).co]), (q2, 48, #[.string ⟨#[]⟩, .int .i64 0, .int .i64 0]), (q3, 28, #[.int .i64 0, .int .u64 0, .int .u64 0, .int .u64 0, .int .u64 0, .slice none 0 0, .int .i64 0, .int .i64 0]), (q4, 25, #[.int .u64 x.a, .int .u64 x.b, .int .u64 x.c, .int .u64 x.d])] (fun _ => True))) (fun wr => muR q S.size wr)
   case atStart => exact ⟨S.size + 1, .zero, r2, HFIN.out, by show Cls.ok _; exact zero_ok, h2S, by omega, by show _ → _; intro _; omega, L6.out⟩
   case round =>
    obtain ⟨f, x, rz, HF, OX, hzs, hf1, HPL, LR⟩ := hrel
    obtain ⟨f1, rfl⟩ : ∃ f1, f = f1 + 1 := ⟨f - 1, by omega⟩
    have MU : Hid (muR q S.size wr = if rz.co = 0 then S.size + 1 - rz.p else 0) := muR_at (LR.out.at (q := q) 0 rfl)
    by_cases h0 : rz.co = 0 ∧ rz.p < S.size
    ·
     obtain ⟨hco, hpl⟩ := h0
     have hpl' : rz.p < (kit.bytes S).length := by rw [HLEN.out]; exact hpl
     have HMO : Hid (∀ W : World, Calls Try.prog 30 #[.agg #[.string S, .int .i64 ((rz).p : Int), .int .i64 (rz).co]] W (fun e w' => e = .returned (.bool true) ∧ Below W.heap.size W w')) := fun W => by have h := rr_more S rz W; rw [more_yes hco hpl'] at h; exact h
     obtain ⟨z, hz⟩ : ∃ z, z = (S[rz.p]'hpl).toNat := ⟨_, rfl⟩
     have hby : (kit.bytes S)[rz.p]? = some z := by rw [byte_at hpl, hz]
     replace hz := hz.symm
     have jl : (rz.p : Int) < (S.size : Int) := by omega
     have HCO := Lib.hid hco
     by_cases g : z = 93
     ·
      have hx := HF.out
      rw [mems_93 _ _ _ (cur_at hco (by rw [hby, g]))] at hx
      simp only [Prod.mk.injEq] at hx
      obtain ⟨rfl, rfl⟩ := hx
      have j9 : ((z : Int) != 93) = false := by rw [g]; rfl
      have jl2 : ¬ (S.size : Int) ≤ (rz.p : Int) := by omega
      have hnl : ¬ (kit.bytes S).length ≤ rz.p := by omega
      have cb : (rz.co != 0) = false := by rw [hco]; rfl
      have jl3 : ¬ S.size ≤ rz.p := by omega
      have HNL := Lib.hid hnl
      clear hnl
      cases b with
      | false =>
       have HY : Hid ((if false = true then rf.oth x else x) = x) := by show _ = _; rw [if_neg (by decide)]
       by_cases gz : x = .zero
       ·
        have HV := HM.out.trans (clsT_c hco HNL.out HY.out gz)
        have jz : x.isz = true := by rw [gz]; exact Cls.isz_zero
        replace HV := Lib.hid HV
        clear gz hby g hco
        obtain ⟨e7_0, e7_1, e7_2⟩ := box3 (LR.out.at (q := q) 0 rfl)
        go_wp2_with fail
        clear e7_0 e7_1 e7_2
        with_reducible refine (HMO.out _).mono ?_
        rintro e V8 ⟨rfl, b8⟩
        have L8 := Lib.hid (LR.out.call b8)
        clear b8
        obtain ⟨e9_0, e9_1, e9_2⟩ := box3 (L8.out.at (q := q) 0 rfl)
        obtain ⟨e10_0, e10_1, e10_2, e10_3⟩ := box4 (L8.out.at (q := q4) 3 rfl)
        obtain ⟨e11_0, e11_1, e11_2⟩ := box3 (L8.out.at (q := q) 0 rfl)
        go_wp2_with fail
        clear e9_0 e9_1 e9_2 e10_0 e10_1 e10_2 e10_3 e11_0 e11_1 e11_2
        with_reducible refine (HFA.out rz r.p 9 _).mono ?_
        rintro e V12 ⟨rfl, b12⟩
        have L12 := Lib.hid (L8.out.call b12)
        clear b12
        obtain ⟨w9, h9, z2, z3, x2, x3, bb, ff⟩ := L12.out.two (q2 := q2) (q3 := q3) 1 2 rfl rfl (by decide) #[.string S, .int .i64 (((rz.fail r.p 9)).p : Int), .int .i64 ((rz.fail r.p 9)).co] #[.int .i64 0, .int .u64 0, .int .u64 0, .int .u64 0, .int .u64 0, .slice none 0 0, .int .i64 0, .int .i64 0]
        replace h9 := Lib.hid h9
        go_wp2_with (first | (refine stQ 2 rfl rfl rfl rfl z2 ?_) | (refine stT 3 rfl rfl rfl rfl z3 ?_))
        rw [← h9.out]
        clear  z2 z3
        obtain ⟨k0, k1, k2⟩ := box3 x2
        obtain ⟨m0, m1, m2, m3, m4, m5, m6, m7⟩ := box8 x3
        refine bodyPost_ret (v := .tuple #[.agg #[.string S, .int .i64 (((rz.fail r.p 9)).p : Int), .int .i64 ((rz.fail r.p 9)).co], .agg #[.int .i64 0, .int .u64 0, .int .u64 0, .int .u64 0, .int .u64 0, .slice none 0 0, .int .i64 0, .int .i64 0]]) (by simp [results, Try.results51, go_sem, k0, k1, k2, m0, m1, m2, m3, m4, m5, m6, m7]) rfl ?_
        exact RrA.leaf (k := 0) (cl := .zero) HV.out bb
       ·
        have HV := HM.out.trans (clsT_d hco HNL.out HY.out gz)
        have jz : x.isz = false := Cls.isz_of gz
        obtain ⟨r9, hr9⟩ : ∃ y, y = rz.fwd := ⟨_, rfl⟩
        rw [← hr9] at HV
        replace HV := Lib.hid HV
        have R9 := Lib.hid hr9
        clear gz hby g hco hr9
        obtain ⟨e7_0, e7_1, e7_2⟩ := box3 (LR.out.at (q := q) 0 rfl)
        go_wp2_with fail
        clear e7_0 e7_1 e7_2
        with_reducible refine (HMO.out _).mono ?_
        rintro e V8 ⟨rfl, b8⟩
        have L8 := Lib.hid (LR.out.call b8)
        clear b8
        obtain ⟨e9_0, e9_1, e9_2⟩ := box3 (L8.out.at (q := q) 0 rfl)
        obtain ⟨e10_0, e10_1, e10_2, e10_3⟩ := box4 (L8.out.at (q := q4) 3 rfl)
        have y11 := L8.out.at (q := q) 0 rfl
        have e11_0 := boxc y11 0 _ rfl
        have e11_1 := boxc y11 1 _ rfl
        have e11_2 := boxc y11 2 _ rfl
        have f11_1 := boxf y11 1
        have ip12 : (rz.p : Int) + 1 = (r9.p : Int) := by rw [R9.out]; rfl
        have iw12 : IntKind.i64.wrap (r9.p : Int) = (r9.p : Int) := IntWalk.i64_in _ (by omega)
        have iv12 : IntKind.i64.wrap ((rz.p : Int) + 1) = (r9.p : Int) := by rw [ip12]; exact iw12
        have L12 := Lib.hid (L8.out.cell (q := q) 0 rfl 1 (.int .i64 (r9.p : Int)) #[.string S, .int .i64 ((r9).p : Int), .int .i64 (r9).co] (by rw [R9.out]; rfl))
        obtain ⟨e13_0, e13_1, e13_2⟩ := box3 (L12.out.at (q := q) 0 rfl)
        go_wp2_with fail
        clear e9_0 e9_1 e9_2 e10_0 e10_1 e10_2 e10_3 y11 e11_0 e11_1 e11_2 f11_1 ip12 iw12 iv12 e13_0 e13_1 e13_2
        obtain ⟨V14, hV14, L14⟩ := L12.out.nm
        replace L14 := Lib.hid L14; replace hV14 := Lib.hid hV14
        rw [← hV14.out]
        have N32 := Lib.hid (L14.out.nq (p := q3) (q := q2) 2 1 rfl rfl (by decide))
        have Y1 := Lib.hid (L14.out.at (q := q) 0 rfl)
        have A1 := Lib.hid (L14.out.nq (p := q) (q := q2) 0 1 rfl rfl (by decide))
        have B1 := Lib.hid (L14.out.nq (p := q) (q := q3) 0 2 rfl rfl (by decide))
        have Y6 := Lib.hid (L14.out.at (q := q4) 3 rfl)
        have A6 := Lib.hid (L14.out.nq (p := q4) (q := q2) 3 1 rfl rfl (by decide))
        have B6 := Lib.hid (L14.out.nq (p := q4) (q := q3) 3 2 rfl rfl (by decide))
        refine wp_flow 5 (fun _ => 1000) (Dr q2 q3 48 28 3 8 _) (Ts 3 4 q2 q3 48 28 #[.string S, .int .i64 ((r9).p : Int), .int .i64 (r9).co] #[.int .i64 2, .int .u64 x.a, .int .u64 x.b, .int .u64 x.c, .int .u64 x.d, .slice none 0 0, .int .i64 0, .int .i64 0]) (fun kF vF wF => match kF with | 0 => (vF = .agg #[.string S, .int .i64 ((r9).p : Int), .int .i64 (r9).co]) | 1 => (vF = .agg #[.int .u64 x.a, .int .u64 x.b, .int .u64 x.c, .int .u64 x.d]) | 2 => (vF = .agg #[.int .i64 2, .int .u64 x.a, .int .u64 x.b, .int .u64 x.c, .int .u64 x.d, .slice none 0 0, .int .i64 0, .int .i64 0]) | 3 => (wF.heap[q2]? = some (.cells #[.string S, .int .i64 ((r9).p : Int), .int .i64 (r9).co] 48 (0, 0))) | 4 => (wF.heap[q3]? = some (.cells #[.int .i64 2, .int .u64 x.a, .int .u64 x.b, .int .u64 x.c, .int .u64 x.d, .slice none 0 0, .int .i64 0, .int .i64 0] 28 (0, 0))) | _ => True) (fun _ _ _ _ => True) (by kernel_rfl) (by kernel_rfl) ((Dr.refl (L14.out.at (q := q2) 1 rfl) (L14.out.at (q := q3) 2 rfl) rfl rfl).below (Below.refl _ _).drew) (fun _ _ _ hR hT => Dr.ts N32.out rfl rfl hR hT) ?_ ?_ ?_
        ·
         intro kF hkF iF hiF hne hdd hanc hdan vF wF1 wF2 h hT
         rcases (by omega : kF = 0 ∨ kF = 1 ∨ kF = 2 ∨ kF = 3 ∨ kF = 4) with rfl | rfl | rfl | rfl | rfl
         all_goals first | exact h | exact Ts.keep2 N32.out hne h hT | exact Ts.keep3 N32.out hne h hT
        ·
         generalize hAF : fillOf _ _ _ = AF
         replace hAF := fun x => congrFun hAF x
         simp only [List.take_succ_cons, List.take_zero, fillOf, Act.put, List.setIfInBounds_toArray, List.set_cons_zero, List.set_cons_succ, Nat.reduceAdd, Nat.zero_add] at hAF
         refine FlowAll.cons ?_ (FlowAll.cons ?_ (FlowAll.cons ?_ (FlowAll.cons ?_ (FlowAll.cons ?_ FlowAll.nil))))
         all_goals
          intro xF wz hR hd K hK
          simp only [← hAF, Act.put, List.setIfInBounds_toArray, List.set_cons_zero, List.set_cons_succ] at hK ⊢
          clear hAF
          try simp only [Nat.zero_add] at hK ⊢
          try simp only [Nat.reduceAdd] at hK ⊢
         ·
          clear hd
          obtain ⟨c0, c1, c2⟩ := box3 ((hR.2.2.1 _ (lt_of_block Y1.out) A1.out B1.out).trans Y1.out)
          rw [if_pos (by rfl)]
          go_simp
          exact hK.out _ _ (Ts.no (by decide) (by decide) (Below.refl _ _)) rfl (fun _ _ _ => ⟨trivial, trivial⟩)
         ·
          clear hd
          obtain ⟨c0, c1, c2, c3⟩ := box4 ((hR.2.2.1 _ (lt_of_block Y6.out) A6.out B6.out).trans Y6.out)
          rw [if_pos (by rfl)]
          go_simp
          exact hK.out _ _ (Ts.no (by decide) (by decide) (Below.refl _ _)) rfl (fun _ _ _ => ⟨trivial, trivial⟩)
         ·
          have dd1 : ((xF 1) = .agg #[.int .u64 x.a, .int .u64 x.b, .int .u64 x.c, .int .u64 x.d]) := hd 1 (by kernel_rfl)
          clear hd
          generalize xF 1 = yy1 at *
          obtain rfl := dd1
          rw [if_pos (by rfl)]
          go_simp
          exact hK.out _ _ (Ts.no (by decide) (by decide) (Below.refl _ _)) rfl (fun _ _ _ => ⟨trivial, trivial⟩)
         ·
          have dd0 : ((xF 0) = .agg #[.string S, .int .i64 ((r9).p : Int), .int .i64 (r9).co]) := hd 0 (by kernel_rfl)
          clear hd
          generalize xF 0 = yy0 at *
          obtain rfl := dd0
          obtain ⟨csO, hcO, hzO⟩ := hR.2.2.2.1
          rw [if_pos (by rfl)]
          refine wp_store_row 48 (.tmp 2) (.tmp 149) rfl q2 #[.string S, .int .i64 ((r9).p : Int), .int .i64 (r9).co] rfl rfl 48 csO hzO rdsize hcO (by simp [Value.oneCell']) ?_
          exact hK.out undef _ (Ts.is2 (by decide) KX.row (setRow_heap _ _ _ _ _ _ hzO)) (setRow_heap _ _ _ _ _ _ hzO) (fun _ _ _ => ⟨trivial, trivial⟩)
         ·
          have dd2 : ((xF 2) = .agg #[.int .i64 2, .int .u64 x.a, .int .u64 x.b, .int .u64 x.c, .int .u64 x.d, .slice none 0 0, .int .i64 0, .int .i64 0]) := hd 2 (by kernel_rfl)
          clear hd
          generalize xF 2 = yy2 at *
          obtain rfl := dd2
          obtain ⟨csO, hcO, hzO⟩ := hR.2.2.2.2
          rw [if_pos (by rfl)]
          refine wp_store_row 28 (.tmp 3) (.tmp 151) rfl q3 #[.int .i64 2, .int .u64 x.a, .int .u64 x.b, .int .u64 x.c, .int .u64 x.d, .slice none 0 0, .int .i64 0, .int .i64 0] rfl rfl 28 csO hzO rsize hcO (by simp [Value.oneCell']) ?_
          exact hK.out undef _ (Ts.is3 KX.row (setRow_heap _ _ _ _ _ _ hzO)) (setRow_heap _ _ _ _ _ _ hzO) (fun _ _ _ => ⟨trivial, trivial⟩)
        intro xF wz hR hF hP
        have x2 : wz.heap[q2]? = some (.cells #[.string S, .int .i64 ((r9).p : Int), .int .i64 (r9).co] 48 (0, 0)) := hF 3 (by omega) (by decide)
        have x3 : wz.heap[q3]? = some (.cells #[.int .i64 2, .int .u64 x.a, .int .u64 x.b, .int .u64 x.c, .int .u64 x.d, .slice none 0 0, .int .i64 0, .int .i64 0] 28 (0, 0)) := hF 4 (by omega) (by decide)
        obtain ⟨bb, ff⟩ := L14.out.drend (q2 := q2) (q3 := q3) 1 2 rfl rfl (by decide) hR x2 x3
        clear hP hF hR
        simp only [List.take_succ_cons, List.take_zero, List.drop_succ_cons, List.drop_zero, fillOf, Act.put, List.setIfInBounds_toArray, List.set_cons_zero, List.set_cons_succ, Nat.reduceAdd, Nat.zero_add]
        try generalize xF 0 = yy0
        try generalize xF 1 = yy1
        try generalize xF 2 = yy2
        try generalize xF 3 = yy3
        try generalize xF 4 = yy4
        clear xF
        obtain ⟨k0, k1, k2⟩ := box3 x2
        obtain ⟨m0, m1, m2, m3, m4, m5, m6, m7⟩ := box8 x3
        go_wp2_with fail
        refine bodyPost_ret (v := .tuple #[.agg #[.string S, .int .i64 ((r9).p : Int), .int .i64 (r9).co], .agg #[.int .i64 2, .int .u64 x.a, .int .u64 x.b, .int .u64 x.c, .int .u64 x.d, .slice none 0 0, .int .i64 0, .int .i64 0]]) (by simp [results, Try.results51, go_sem, k0, k1, k2, m0, m1, m2, m3, m4, m5, m6, m7]) rfl ?_
        exact RrA.leaf (k := 2) (cl := x) HV.out bb
      | true =>
       have HY : Hid ((if true = true then rf.oth x else x) = (oth x)) := by show _ = _; rw [if_pos rfl]
       by_cases gz : (oth x) = .zero
       ·
        have HV := HM.out.trans (clsT_c hco HNL.out HY.out gz)
        have jz : (oth x).isz = true := by rw [gz]; exact Cls.isz_zero
        replace HV := Lib.hid HV
        clear gz hby g hco
        obtain ⟨e7_0, e7_1, e7_2⟩ := box3 (LR.out.at (q := q) 0 rfl)
        go_wp2_with fail
        clear e7_0 e7_1 e7_2
        with_reducible refine (HMO.out _).mono ?_
        rintro e V8 ⟨rfl, b8⟩
        have L8 := Lib.hid (LR.out.call b8)
        clear b8
        obtain ⟨e9_0, e9_1, e9_2⟩ := box3 (L8.out.at (q := q) 0 rfl)
        obtain ⟨e10_0, e10_1, e10_2, e10_3⟩ := box4 (L8.out.at (q := q4) 3 rfl)
        have HTU : Hid (∀ W : World, Calls Try.prog 52 #[.agg #[.int .u64 x.a, .int .u64 x.b, .int .u64 x.c, .int .u64 x.d]] W (fun e w' => e = .returned (.agg #[.int .u64 (oth x).a, .int .u64 (oth x).b, .int .u64 (oth x).c, .int .u64 (oth x).d]) ∧ Below W.heap.size W w')) := fun W => rr_turned x W OX.out
        go_wp2_with fail
        clear e9_0 e9_1 e9_2 e10_0 e10_1 e10_2 e10_3
        with_reducible refine (HTU.out _).mono ?_
        rintro e V11 ⟨rfl, b11⟩
        have L11 := Lib.hid (L8.out.call b11)
        clear b11
        have z12 := L11.out.at (q := q4) 3 rfl
        have L12 := Lib.hid (L11.out.row (q := q4) 3 rfl #[.int .u64 (oth x).a, .int .u64 (oth x).b, .int .u64 (oth x).c, .int .u64 (oth x).d])
        obtain ⟨e13_0, e13_1, e13_2⟩ := box3 (L12.out.at (q := q) 0 rfl)
        obtain ⟨e14_0, e14_1, e14_2, e14_3⟩ := box4 (L12.out.at (q := q4) 3 rfl)
        obtain ⟨e15_0, e15_1, e15_2⟩ := box3 (L12.out.at (q := q) 0 rfl)
        go_wp2_with (refine stC 6 rfl rfl rfl rfl z12 ?_)
        clear z12 e13_0 e13_1 e13_2 e14_0 e14_1 e14_2 e14_3 e15_0 e15_1 e15_2
        obtain ⟨V16, hV16, L16⟩ := L12.out.nm
        replace L16 := Lib.hid L16; replace hV16 := Lib.hid hV16
        rw [← hV16.out]
        with_reducible refine (HFA.out rz r.p 9 _).mono ?_
        rintro e V17 ⟨rfl, b17⟩
        have L17 := Lib.hid (L16.out.call b17)
        clear b17
        obtain ⟨w9, h9, z2, z3, x2, x3, bb, ff⟩ := L17.out.two (q2 := q2) (q3 := q3) 1 2 rfl rfl (by decide) #[.string S, .int .i64 (((rz.fail r.p 9)).p : Int), .int .i64 ((rz.fail r.p 9)).co] #[.int .i64 0, .int .u64 0, .int .u64 0, .int .u64 0, .int .u64 0, .slice none 0 0, .int .i64 0, .int .i64 0]
        replace h9 := Lib.hid h9
        go_wp2_with (first | (refine stQ 2 rfl rfl rfl rfl z2 ?_) | (refine stT 3 rfl rfl rfl rfl z3 ?_))
        rw [← h9.out]
        clear  z2 z3
        obtain ⟨k0, k1, k2⟩ := box3 x2
        obtain ⟨m0, m1, m2, m3, m4, m5, m6, m7⟩ := box8 x3
        refine bodyPost_ret (v := .tuple #[.agg #[.string S, .int .i64 (((rz.fail r.p 9)).p : Int), .int .i64 ((rz.fail r.p 9)).co], .agg #[.int .i64 0, .int .u64 0, .int .u64 0, .int .u64 0, .int .u64 0, .slice none 0 0, .int .i64 0, .int .i64 0]]) (by simp [results, Try.results51, go_sem, k0, k1, k2, m0, m1, m2, m3, m4, m5, m6, m7]) rfl ?_
        exact RrA.leaf (k := 0) (cl := .zero) HV.out bb
       ·
        have HV := HM.out.trans (clsT_d hco HNL.out HY.out gz)
        have jz : (oth x).isz = false := Cls.isz_of gz
        obtain ⟨r9, hr9⟩ : ∃ y, y = rz.fwd := ⟨_, rfl⟩
        rw [← hr9] at HV
        replace HV := Lib.hid HV
        have R9 := Lib.hid hr9
        clear gz hby g hco hr9
        obtain ⟨e7_0, e7_1, e7_2⟩ := box3 (LR.out.at (q := q) 0 rfl)
        go_wp2_with fail
        clear e7_0 e7_1 e7_2
        with_reducible refine (HMO.out _).mono ?_
        rintro e V8 ⟨rfl, b8⟩
        have L8 := Lib.hid (LR.out.call b8)
        clear b8
        obtain ⟨e9_0, e9_1, e9_2⟩ := box3 (L8.out.at (q := q) 0 rfl)
        obtain ⟨e10_0, e10_1, e10_2, e10_3⟩ := box4 (L8.out.at (q := q4) 3 rfl)
        have HTU : Hid (∀ W : World, Calls Try.prog 52 #[.agg #[.int .u64 x.a, .int .u64 x.b, .int .u64 x.c, .int .u64 x.d]] W (fun e w' => e = .returned (.agg #[.int .u64 (oth x).a, .int .u64 (oth x).b, .int .u64 (oth x).c, .int .u64 (oth x).d]) ∧ Below W.heap.size W w')) := fun W => rr_turned x W OX.out
        go_wp2_with fail
        clear e9_0 e9_1 e9_2 e10_0 e10_1 e10_2 e10_3
        with_reducible refine (HTU.out _).mono ?_
        rintro e V11 ⟨rfl, b11⟩
        have L11 := Lib.hid (L8.out.call b11)
        clear b11
        have z12 := L11.out.at (q := q4) 3 rfl
        have L12 := Lib.hid (L11.out.row (q := q4) 3 rfl #[.int .u64 (oth x).a, .int .u64 (oth x).b, .int .u64 (oth x).c, .int .u64 (oth x).d])
        obtain ⟨e13_0, e13_1, e13_2⟩ := box3 (L12.out.at (q := q) 0 rfl)
        obtain ⟨e14_0, e14_1, e14_2, e14_3⟩ := box4 (L12.out.at (q := q4) 3 rfl)
        have y15 := L12.out.at (q := q) 0 rfl
        have e15_0 := boxc y15 0 _ rfl
        have e15_1 := boxc y15 1 _ rfl
        have e15_2 := boxc y15 2 _ rfl
        have f15_1 := boxf y15 1
        have ip16 : (rz.p : Int) + 1 = (r9.p : Int) := by rw [R9.out]; rfl
        have iw16 : IntKind.i64.wrap (r9.p : Int) = (r9.p : Int) := IntWalk.i64_in _ (by omega)
        have iv16 : IntKind.i64.wrap ((rz.p : Int) + 1) = (r9.p : Int) := by rw [ip16]; exact iw16
        have L16 := Lib.hid (L12.out.cell (q := q) 0 rfl 1 (.int .i64 (r9.p : Int)) #[.string S, .int .i64 ((r9).p : Int), .int .i64 (r9).co] (by rw [R9.out]; rfl))
        obtain ⟨e17_0, e17_1, e17_2⟩ := box3 (L16.out.at (q := q) 0 rfl)
        go_wp2_with (refine stC 6 rfl rfl rfl rfl z12 ?_)
        clear z12 e13_0 e13_1 e13_2 e14_0 e14_1 e14_2 e14_3 y15 e15_0 e15_1 e15_2 f15_1 ip16 iw16 iv16 e17_0 e17_1 e17_2
        obtain ⟨V18, hV18, L18⟩ := L16.out.nm
        replace L18 := Lib.hid L18; replace hV18 := Lib.hid hV18
        rw [← hV18.out]
        have N32 := Lib.hid (L18.out.nq (p := q3) (q := q2) 2 1 rfl rfl (by decide))
        have Y1 := Lib.hid (L18.out.at (q := q) 0 rfl)
        have A1 := Lib.hid (L18.out.nq (p := q) (q := q2) 0 1 rfl rfl (by decide))
        have B1 := Lib.hid (L18.out.nq (p := q) (q := q3) 0 2 rfl rfl (by decide))
        have Y6 := Lib.hid (L18.out.at (q := q4) 3 rfl)
        have A6 := Lib.hid (L18.out.nq (p := q4) (q := q2) 3 1 rfl rfl (by decide))
        have B6 := Lib.hid (L18.out.nq (p := q4) (q := q3) 3 2 rfl rfl (by decide))
        refine wp_flow 5 (fun _ => 1000) (Dr q2 q3 48 28 3 8 _) (Ts 3 4 q2 q3 48 28 #[.string S, .int .i64 ((r9).p : Int), .int .i64 (r9).co] #[.int .i64 2, .int .u64 (oth x).a, .int .u64 (oth x).b, .int .u64 (oth x).c, .int .u64 (oth x).d, .slice none 0 0, .int .i64 0, .int .i64 0]) (fun kF vF wF => match kF with | 0 => (vF = .agg #[.string S, .int .i64 ((r9).p : Int), .int .i64 (r9).co]) | 1 => (vF = .agg #[.int .u64 (oth x).a, .int .u64 (oth x).b, .int .u64 (oth x).c, .int .u64 (oth x).d]) | 2 => (vF = .agg #[.int .i64 2, .int .u64 (oth x).a, .int .u64 (oth x).b, .int .u64 (oth x).c, .int .u64 (oth x).d, .slice none 0 0, .int .i64 0, .int .i64 0]) | 3 => (wF.heap[q2]? = some (.cells #[.string S, .int .i64 ((r9).p : Int), .int .i64 (r9).co] 48 (0, 0))) | 4 => (wF.heap[q3]? = some (.cells #[.int .i64 2, .int .u64 (oth x).a, .int .u64 (oth x).b, .int .u64 (oth x).c, .int .u64 (oth x).d, .slice none 0 0, .int .i64 0, .int .i64 0] 28 (0, 0))) | _ => True) (fun _ _ _ _ => True) (by kernel_rfl) (by kernel_rfl) ((Dr.refl (L18.out.at (q := q2) 1 rfl) (L18.out.at (q := q3) 2 rfl) rfl rfl).below (Below.refl _ _).drew) (fun _ _ _ hR hT => Dr.ts N32.out rfl rfl hR hT) ?_ ?_ ?_
        ·
         intro kF hkF iF hiF hne hdd hanc hdan vF wF1 wF2 h hT
         rcases (by omega : kF = 0 ∨ kF = 1 ∨ kF = 2 ∨ kF = 3 ∨ kF = 4) with rfl | rfl | rfl | rfl | rfl
         all_goals first | exact h | exact Ts.keep2 N32.out hne h hT | exact Ts.keep3 N32.out hne h hT
        ·
         generalize hAF : fillOf _ _ _ = AF
         replace hAF := fun x => congrFun hAF x
         simp only [List.take_succ_cons, List.take_zero, fillOf, Act.put, List.setIfInBounds_toArray, List.set_cons_zero, List.set_cons_succ, Nat.reduceAdd, Nat.zero_add] at hAF
         refine FlowAll.cons ?_ (FlowAll.cons ?_ (FlowAll.cons ?_ (FlowAll.cons ?_ (FlowAll.cons ?_ FlowAll.nil))))
         all_goals
          intro xF wz hR hd K hK
          simp only [← hAF, Act.put, List.setIfInBounds_toArray, List.set_cons_zero, List.set_cons_succ] at hK ⊢
          clear hAF
          try simp only [Nat.zero_add] at hK ⊢
          try simp only [Nat.reduceAdd] at hK ⊢
         ·
          clear hd
          obtain ⟨c0, c1, c2⟩ := box3 ((hR.2.2.1 _ (lt_of_block Y1.out) A1.out B1.out).trans Y1.out)
          rw [if_pos (by rfl)]
          go_simp
          exact hK.out _ _ (Ts.no (by decide) (by decide) (Below.refl _ _)) rfl (fun _ _ _ => ⟨trivial, trivial⟩)
         ·
          clear hd
          obtain ⟨c0, c1, c2, c3⟩ := box4 ((hR.2.2.1 _ (lt_of_block Y6.out) A6.out B6.out).trans Y6.out)
          rw [if_pos (by rfl)]
          go_simp
          exact hK.out _ _ (Ts.no (by decide) (by decide) (Below.refl _ _)) rfl (fun _ _ _ => ⟨trivial, trivial⟩)
         ·
          have dd1 : ((xF 1) = .agg #[.int .u64 (oth x).a, .int .u64 (oth x).b, .int .u64 (oth x).c, .int .u64 (oth x).d]) := hd 1 (by kernel_rfl)
          clear hd
          generalize xF 1 = yy1 at *
          obtain rfl := dd1
          rw [if_pos (by rfl)]
          go_simp
          exact hK.out _ _ (Ts.no (by decide) (by decide) (Below.refl _ _)) rfl (fun _ _ _ => ⟨trivial, trivial⟩)
         ·
          have dd0 : ((xF 0) = .agg #[.string S, .int .i64 ((r9).p : Int), .int .i64 (r9).co]) := hd 0 (by kernel_rfl)
          clear hd
          generalize xF 0 = yy0 at *
          obtain rfl := dd0
          obtain ⟨csO, hcO, hzO⟩ := hR.2.2.2.1
          rw [if_pos (by rfl)]
          refine wp_store_row 48 (.tmp 2) (.tmp 149) rfl q2 #[.string S, .int .i64 ((r9).p : Int), .int .i64 (r9).co] rfl rfl 48 csO hzO rdsize hcO (by simp [Value.oneCell']) ?_
          exact hK.out undef _ (Ts.is2 (by decide) KX.row (setRow_heap _ _ _ _ _ _ hzO)) (setRow_heap _ _ _ _ _ _ hzO) (fun _ _ _ => ⟨trivial, trivial⟩)
         ·
          have dd2 : ((xF 2) = .agg #[.int .i64 2, .int .u64 (oth x).a, .int .u64 (oth x).b, .int .u64 (oth x).c, .int .u64 (oth x).d, .slice none 0 0, .int .i64 0, .int .i64 0]) := hd 2 (by kernel_rfl)
          clear hd
          generalize xF 2 = yy2 at *
          obtain rfl := dd2
          obtain ⟨csO, hcO, hzO⟩ := hR.2.2.2.2
          rw [if_pos (by rfl)]
          refine wp_store_row 28 (.tmp 3) (.tmp 151) rfl q3 #[.int .i64 2, .int .u64 (oth x).a, .int .u64 (oth x).b, .int .u64 (oth x).c, .int .u64 (oth x).d, .slice none 0 0, .int .i64 0, .int .i64 0] rfl rfl 28 csO hzO rsize hcO (by simp [Value.oneCell']) ?_
          exact hK.out undef _ (Ts.is3 KX.row (setRow_heap _ _ _ _ _ _ hzO)) (setRow_heap _ _ _ _ _ _ hzO) (fun _ _ _ => ⟨trivial, trivial⟩)
        intro xF wz hR hF hP
        have x2 : wz.heap[q2]? = some (.cells #[.string S, .int .i64 ((r9).p : Int), .int .i64 (r9).co] 48 (0, 0)) := hF 3 (by omega) (by decide)
        have x3 : wz.heap[q3]? = some (.cells #[.int .i64 2, .int .u64 (oth x).a, .int .u64 (oth x).b, .int .u64 (oth x).c, .int .u64 (oth x).d, .slice none 0 0, .int .i64 0, .int .i64 0] 28 (0, 0)) := hF 4 (by omega) (by decide)
        obtain ⟨bb, ff⟩ := L18.out.drend (q2 := q2) (q3 := q3) 1 2 rfl rfl (by decide) hR x2 x3
        clear hP hF hR
        simp only [List.take_succ_cons, List.take_zero, List.drop_succ_cons, List.drop_zero, fillOf, Act.put, List.setIfInBounds_toArray, List.set_cons_zero, List.set_cons_succ, Nat.reduceAdd, Nat.zero_add]
        try generalize xF 0 = yy0
        try generalize xF 1 = yy1
        try generalize xF 2 = yy2
        try generalize xF 3 = yy3
        try generalize xF 4 = yy4
        clear xF
        obtain ⟨k0, k1, k2⟩ := box3 x2
        obtain ⟨m0, m1, m2, m3, m4, m5, m6, m7⟩ := box8 x3
        go_wp2_with fail
        refine bodyPost_ret (v := .tuple #[.agg #[.string S, .int .i64 ((r9).p : Int), .int .i64 (r9).co], .agg #[.int .i64 2, .int .u64 (oth x).a, .int .u64 (oth x).b, .int .u64 (oth x).c, .int .u64 (oth x).d, .slice none 0 0, .int .i64 0, .int .i64 0]]) (by simp [results, Try.results51, go_sem, k0, k1, k2, m0, m1, m2, m3, m4, m5, m6, m7]) rfl ?_
        exact RrA.leaf (k := 2) (cl := (oth x)) HV.out bb
     ·
      have j9 : ((z : Int) != 93) = true := by simp; omega
      have HH9 := Lib.hid g
      have HCU : Hid (rr.cur (kit.bytes S) rz = some z) := cur_at hco hby
      have HOK := Lib.hid (member_okk HS8.out hco hby g)
      have HME : Hid (∀ W : World, Calls Try.prog 62 #[.agg #[.string S, .int .i64 ((rz).p : Int), .int .i64 (rz).co]] W (fun e w' => e = .returned (.tuple #[.agg #[.string S, .int .i64 (((rr.member (kit.bytes S) rz).1).p : Int), .int .i64 ((rr.member (kit.bytes S) rz).1).co], .agg #[.int .u64 (rr.member (kit.bytes S) rz).2.1.a, .int .u64 (rr.member (kit.bytes S) rz).2.1.b, .int .u64 (rr.member (kit.bytes S) rz).2.1.c, .int .u64 (rr.member (kit.bytes S) rz).2.1.d], .int .u8 (rr.member (kit.bytes S) rz).2.2.1, .bool (rr.member (kit.bytes S) rz).2.2.2]) ∧ Below W.heap.size W w')) := fun W => rr_member S rz W hS hpl
      have hpm := rr.member_pl (kit.bytes S) hpl'
      have HAD : Hid ((rr.member (kit.bytes S) rz).1.co = 0 → rz.p < (rr.member (kit.bytes S) rz).1.p) := fun h => (rr.member_adv (kit.bytes S) hby h).1
      obtain ⟨r3, hr3⟩ : ∃ y, y = (rr.member (kit.bytes S) rz).1 := ⟨_, rfl⟩
      obtain ⟨k3, hk3⟩ : ∃ y, y = (rr.member (kit.bytes S) rz).2.1 := ⟨_, rfl⟩
      obtain ⟨v3, hv3⟩ : ∃ y, y = (rr.member (kit.bytes S) rz).2.2.1 := ⟨_, rfl⟩
      obtain ⟨b3, hb3⟩ : ∃ y, y = (rr.member (kit.bytes S) rz).2.2.2 := ⟨_, rfl⟩
      rw [← hr3, ← hk3, ← hv3, ← hb3] at HME
      rw [← hr3] at hpm HAD
      rw [← hk3, ← hv3] at HOK
      have hp3 : r3.p ≤ S.size := by rw [← HLEN.out]; exact hpm.2
      have HV3 := HOK.out.2
      have HR3 := Lib.hid hr3
      have HK3 := Lib.hid hk3
      have HW3 := Lib.hid hv3
      have HB3 := Lib.hid hb3
      clear hr3 hk3 hv3 hb3 g hby hco hpl' hpm
      obtain ⟨e7_0, e7_1, e7_2⟩ := box3 (LR.out.at (q := q) 0 rfl)
      go_wp2_with fail
      clear e7_0 e7_1 e7_2
      with_reducible refine (HMO.out _).mono ?_
      rintro e V8 ⟨rfl, b8⟩
      have L8 := Lib.hid (LR.out.call b8)
      clear b8
      obtain ⟨e9_0, e9_1, e9_2⟩ := box3 (L8.out.at (q := q) 0 rfl)
      go_wp2_with fail
      clear e9_0 e9_1 e9_2
      with_reducible refine (HME.out _).mono ?_
      rintro e V10 ⟨rfl, b10⟩
      have L10 := Lib.hid (L8.out.call b10)
      clear b10
      clear hz jl j9 HMO HME
      obtain ⟨q8, hq8⟩ : ∃ x, x = V10.heap.size := ⟨_, rfl⟩
      have L11 := Lib.hid (L10.out.add (q := q8) 48 #[.string S, .int .i64 ((r3).p : Int), .int .i64 (r3).co] hq8)
      obtain ⟨q9, hq9⟩ : ∃ x, x = V10.heap.size + 1 := ⟨_, rfl⟩
      have L12 := Lib.hid (L11.out.add (q := q9) 25 #[.int .u64 k3.a, .int .u64 k3.b, .int .u64 k3.c, .int .u64 k3.d] (by simp only [World.size_alloc]; exact hq9))
      have z13 := L12.out.at (q := q) 0 rfl
      have L13 := Lib.hid (L12.out.row (q := q) 0 rfl #[.string S, .int .i64 ((r3).p : Int), .int .i64 (r3).co])
      by_cases gb : b3 = true
      ·
       subst gb
       obtain ⟨e14_0, e14_1, e14_2⟩ := box3 (L13.out.at (q := q) 0 rfl)
       go_wp2_with (refine stQ 1 rfl rfl rfl rfl z13 ?_)
       clear z13 e14_0 e14_1 e14_2
       rw [← hq9, ← hq8]
       replace hq8 := Lib.hid hq8
       replace hq9 := Lib.hid hq9
       by_cases h4 : r3.co = 0 ∧ r3.p < S.size
       ·
        obtain ⟨hco3, hpl3⟩ := h4
        have hpl3' : r3.p < (kit.bytes S).length := by rw [HLEN.out]; exact hpl3
        have HM3 : Hid (∀ W : World, Calls Try.prog 30 #[.agg #[.string S, .int .i64 ((r3).p : Int), .int .i64 (r3).co]] W (fun e w' => e = .returned (.bool true) ∧ Below W.heap.size W w')) := fun W => by have h := rr_more S r3 W; rw [more_yes hco3 hpl3'] at h; exact h
        obtain ⟨z3, hz3⟩ : ∃ z, z = (S[r3.p]'hpl3).toNat := ⟨_, rfl⟩
        have hby3 : (kit.bytes S)[r3.p]? = some z3 := by rw [byte_at hpl3, hz3]
        replace hz3 := hz3.symm
        have jl3 : (r3.p : Int) < (S.size : Int) := by omega
        have HC3 : Hid (rr.cur (kit.bytes S) r3 = some z3) := cur_at hco3 hby3
        have HCO3 := Lib.hid hco3
        clear hby3 hco3 hpl3'
        with_reducible refine (HM3.out _).mono ?_
        rintro e V15 ⟨rfl, b15⟩
        have L15 := Lib.hid (L13.out.call b15)
        clear b15
        by_cases gd : z3 = 45
        ·
         have jd : ((z3 : Int) == 45) = true := by rw [gd]; rfl
         have HD45 : Hid ((rr.member (kit.bytes S) rz).2.2.2 = true ∧ rr.cur (kit.bytes S) (rr.member (kit.bytes S) rz).1 = some 45) := ⟨HB3.out.symm, by rw [← HR3.out, HC3.out, gd]⟩
         clear gd
         obtain ⟨r4, hr4⟩ : ∃ y, y = r3.fwd := ⟨_, rfl⟩
         have HR4 := Lib.hid hr4
         have P4 : Hid (r4.p = r3.p + 1) := by show _ = _; rw [hr4]; rfl
         have HCO4 : Hid (r4.co = 0) := by show _ = _; rw [hr4]; exact HCO3.out
         clear hr4
         have y16 := L15.out.at (q := q) 0 rfl
         have e16_0 := boxc y16 0 _ rfl
         have e16_1 := boxc y16 1 _ rfl
         have e16_2 := boxc y16 2 _ rfl
         have f16_1 := boxf y16 1
         have ip17 : (r3.p : Int) + 1 = (r4.p : Int) := by rw [HR4.out]; rfl
         have iw17 : IntKind.i64.wrap (r4.p : Int) = (r4.p : Int) := IntWalk.i64_in _ (by omega)
         have iv17 : IntKind.i64.wrap ((r3.p : Int) + 1) = (r4.p : Int) := by rw [ip17]; exact iw17
         have L17 := Lib.hid (L15.out.cell (q := q) 0 rfl 1 (.int .i64 (r4.p : Int)) #[.string S, .int .i64 ((r4).p : Int), .int .i64 (r4).co] (by rw [HR4.out]; rfl))
         obtain ⟨e18_0, e18_1, e18_2⟩ := box3 (L17.out.at (q := q) 0 rfl)
         by_cases g4 : r4.p < S.size
         ·
          have hpl4' : r4.p < (kit.bytes S).length := by rw [HLEN.out]; exact g4
          have HM4 : Hid (∀ W : World, Calls Try.prog 30 #[.agg #[.string S, .int .i64 ((r4).p : Int), .int .i64 (r4).co]] W (fun e w' => e = .returned (.bool true) ∧ Below W.heap.size W w')) := fun W => by have h := rr_more S r4 W; rw [more_yes HCO4.out hpl4'] at h; exact h
          obtain ⟨z4, hz4⟩ : ∃ z, z = (S[r4.p]'g4).toNat := ⟨_, rfl⟩
          have hby4 : (kit.bytes S)[r4.p]? = some z4 := by rw [byte_at g4, hz4]
          replace hz4 := hz4.symm
          have jl4 : (r4.p : Int) < (S.size : Int) := by omega
          have HC4 : Hid (rr.cur (kit.bytes S) r4 = some z4) := cur_at HCO4.out hby4
          go_wp2_with fail
          clear y16 e16_0 e16_1 e16_2 f16_1 ip17 iw17 iv17 e18_0 e18_1 e18_2
          obtain ⟨V19, hV19, L19⟩ := L17.out.nm
          replace L19 := Lib.hid L19; replace hV19 := Lib.hid hV19
          rw [← hV19.out]
          with_reducible refine (HM4.out _).mono ?_
          rintro e V20 ⟨rfl, b20⟩
          have L20 := Lib.hid (L19.out.call b20)
          clear b20
          obtain ⟨e21_0, e21_1, e21_2⟩ := box3 (L20.out.at (q := q) 0 rfl)
          by_cases g5 : z4 = 93
          ·
           have j4 : ((z4 : Int) == 93) = true := by rw [g5]; rfl
           have HE4 : Hid (rr.cur (kit.bytes S) r4 = some 93) := by show _ = _; rw [HC4.out, g5]
           clear g5 hby4 hpl4'
           go_wp2_with fail
           clear e21_0 e21_1 e21_2
           obtain ⟨r5, hr5⟩ : ∃ y, y = r4.fail rz.p 9 := ⟨_, rfl⟩
           have HR5 := Lib.hid hr5
           have c5 : r5.co ≠ 0 := by rw [hr5]; exact rr.fail_co (by decide)
           have HF5 : Hid (∀ W : World, Calls Try.prog 23 #[.agg #[.string S, .int .i64 ((r4).p : Int), .int .i64 (r4).co], .int .i64 (rz.p : Int), .int .i64 9] W (fun e w' => e = .returned (.agg #[.string S, .int .i64 ((r5).p : Int), .int .i64 (r5).co]) ∧ Below W.heap.size W w')) := by rw [HR5.out]; exact fun W => HFA.out r4 rz.p 9 W
           have hx := HF.out
           rw [rr.mems_brk _ _ _ HCU.out HH9.out HD45.out (Or.inr (by rw [← HR3.out, ← HR4.out]; exact HE4.out)), ← HR3.out, ← HR4.out, ← HR5.out] at hx
           simp only [Prod.mk.injEq] at hx
           obtain ⟨rfl, rfl⟩ := hx
           have HV := Lib.hid (HM.out.trans (clsT_a c5))
           have cb : (r5.co != 0) = true := by simp [c5]
           clear c5 hr5
           with_reducible refine (HF5.out _).mono ?_
           rintro e V22 ⟨rfl, b22⟩
           have L22 := Lib.hid (L20.out.call b22)
           clear b22
           have z23 := L22.out.at (q := q) 0 rfl
           have L23 := Lib.hid (L22.out.row (q := q) 0 rfl #[.string S, .int .i64 ((r5).p : Int), .int .i64 (r5).co])
           obtain ⟨e24_0, e24_1, e24_2⟩ := box3 (L23.out.at (q := q) 0 rfl)
           obtain ⟨w9, h9, z2, z3, x2, x3, bb, ff⟩ := L23.out.two (q2 := q2) (q3 := q3) 1 2 rfl rfl (by decide) #[.string S, .int .i64 ((r5).p : Int), .int .i64 (r5).co] #[.int .i64 0, .int .u64 0, .int .u64 0, .int .u64 0, .int .u64 0, .slice none 0 0, .int .i64 0, .int .i64 0]
           replace h9 := Lib.hid h9
           go_wp2_with (first | (refine stQ 1 rfl rfl rfl rfl z23 ?_) | (refine stQ 2 rfl rfl rfl rfl z2 ?_) | (refine stT 3 rfl rfl rfl rfl z3 ?_))
           rw [← h9.out]
           clear z23 e24_0 e24_1 e24_2 z2 z3
           obtain ⟨k0, k1, k2⟩ := box3 x2
           obtain ⟨m0, m1, m2, m3, m4, m5, m6, m7⟩ := box8 x3
           refine bodyPost_ret (v := .tuple #[.agg #[.string S, .int .i64 ((r5).p : Int), .int .i64 (r5).co], .agg #[.int .i64 0, .int .u64 0, .int .u64 0, .int .u64 0, .int .u64 0, .slice none 0 0, .int .i64 0, .int .i64 0]]) (by simp [results, Try.results51, go_sem, k0, k1, k2, m0, m1, m2, m3, m4, m5, m6, m7]) rfl ?_
           exact RrA.leaf (k := 0) (cl := .zero) HV.out bb
          ·
           have j4 : ((z4 : Int) == 93) = false := beq_eq_false_iff_ne.2 (by omega)
           have HNE : Hid (¬ (rr.cur (kit.bytes S) (rr.member (kit.bytes S) rz).1.fwd = none ∨ rr.cur (kit.bytes S) (rr.member (kit.bytes S) rz).1.fwd = some 93)) := by show ¬ _; rw [← HR3.out, ← HR4.out, HC4.out]; exact fun h => h.elim (fun h => by cases h) (fun h => g5 (Option.some.inj h))
           have HO4 := Lib.hid (member_okk HS8.out HCO4.out hby4 g5)
           have HME4 : Hid (∀ W : World, Calls Try.prog 62 #[.agg #[.string S, .int .i64 ((r4).p : Int), .int .i64 (r4).co]] W (fun e w' => e = .returned (.tuple #[.agg #[.string S, .int .i64 (((rr.member (kit.bytes S) r4).1).p : Int), .int .i64 ((rr.member (kit.bytes S) r4).1).co], .agg #[.int .u64 (rr.member (kit.bytes S) r4).2.1.a, .int .u64 (rr.member (kit.bytes S) r4).2.1.b, .int .u64 (rr.member (kit.bytes S) r4).2.1.c, .int .u64 (rr.member (kit.bytes S) r4).2.1.d], .int .u8 (rr.member (kit.bytes S) r4).2.2.1, .bool (rr.member (kit.bytes S) r4).2.2.2]) ∧ Below W.heap.size W w')) := fun W => rr_member S r4 W hS g4
           have hpm4 := rr.member_pl (kit.bytes S) hpl4'
           have HAD4 : Hid ((rr.member (kit.bytes S) r4).1.co = 0 → r4.p < (rr.member (kit.bytes S) r4).1.p) := fun h => (rr.member_adv (kit.bytes S) hby4 h).1
           have HSP := Lib.hid (rr.mems_span (kit.bytes S) f1 x HCU.out HH9.out HD45.out HNE.out)
           rw [← HR3.out, ← HR4.out, ← HW3.out] at HSP
           obtain ⟨r6, hr6⟩ : ∃ y, y = (rr.member (kit.bytes S) r4).1 := ⟨_, rfl⟩
           obtain ⟨k6, hk6⟩ : ∃ y, y = (rr.member (kit.bytes S) r4).2.1 := ⟨_, rfl⟩
           obtain ⟨v6, hv6⟩ : ∃ y, y = (rr.member (kit.bytes S) r4).2.2.1 := ⟨_, rfl⟩
           obtain ⟨b6, hb6⟩ : ∃ y, y = (rr.member (kit.bytes S) r4).2.2.2 := ⟨_, rfl⟩
           rw [← hr6, ← hk6, ← hv6, ← hb6] at HME4
           rw [← hr6] at hpm4 HAD4
           rw [← hk6, ← hv6] at HO4
           rw [← hr6, ← hv6, ← hb6] at HSP
           have hp6 : r6.p ≤ S.size := by rw [← HLEN.out]; exact hpm4.2
           have HV6 := HO4.out.2
           clear hr6 hk6 hv6 hb6 g5 hby4 hpl4' hpm4
           go_wp2_with fail
           clear e21_0 e21_1 e21_2
           with_reducible refine (HME4.out _).mono ?_
           rintro e V22 ⟨rfl, b22⟩
           have L22 := Lib.hid (L20.out.call b22)
           clear b22
           clear hz4 jl4 j4 HM4 HME4
           obtain ⟨q12, hq12⟩ : ∃ x, x = V22.heap.size := ⟨_, rfl⟩
           have L23 := Lib.hid (L22.out.add (q := q12) 48 #[.string S, .int .i64 ((r6).p : Int), .int .i64 (r6).co] hq12)
           obtain ⟨q13, hq13⟩ : ∃ x, x = V22.heap.size + 1 := ⟨_, rfl⟩
           have L24 := Lib.hid (L23.out.add (q := q13) 25 #[.int .u64 k6.a, .int .u64 k6.b, .int .u64 k6.c, .int .u64 k6.d] (by simp only [World.size_alloc]; exact hq13))
           have z25 := L24.out.at (q := q) 0 rfl
           have L25 := Lib.hid (L24.out.row (q := q) 0 rfl #[.string S, .int .i64 ((r6).p : Int), .int .i64 (r6).co])
           have OS : Hid ((span v3 v6).ok) := span_ok _ _ _ (by omega) zero_ok
           have HSPN : Hid (∀ W : World, Calls Try.prog 63 #[.int .u8 (v3 : Int), .int .u8 (v6 : Int)] W (fun e w' => e = .returned (.agg #[.int .u64 (span v3 v6).a, .int .u64 (span v3 v6).b, .int .u64 (span v3 v6).c, .int .u64 (span v3 v6).d]) ∧ Below W.heap.size W w')) := fun W => rr_span v3 v6 W HV3 HV6
           by_cases h6 : r6.co = 0
           ·
            have cb6 : (r6.co == 0) = true := by rw [h6]; rfl
            by_cases g6 : b6 = true
            ·
             subst g6
             by_cases g7 : v6 < v3
             ·
              have jv : (v6 : Int) < (v3 : Int) := by omega
              have HIF0 : Hid ((if r6.co = 0 ∧ (true = false ∨ v6 < v3) then r6.fail rz.p 9 else r6) = r6.fail rz.p 9) := if_pos (⟨h6, Or.inr g7⟩)
              obtain ⟨r7, hr7⟩ : ∃ y, y = r6.fail rz.p 9 := ⟨_, rfl⟩
              have HIF : Hid ((if r6.co = 0 ∧ (true = false ∨ v6 < v3) then r6.fail rz.p 9 else r6) = r7) := HIF0.out.trans hr7.symm
              have HPG : Hid (r7.co = 0 → rz.p < r7.p) := fun h => absurd h (by rw [hr7]; exact rr.fail_co (by decide))
              have hrN : r7.p ≤ S.size := by rw [hr7]; exact (rr.fail_pl (lo := 0) (n := S.size) ⟨Nat.zero_le _, by omega⟩ ⟨Nat.zero_le _, hp6⟩).2
              have HF7 : Hid (∀ W : World, Calls Try.prog 23 #[.agg #[.string S, .int .i64 ((r6).p : Int), .int .i64 (r6).co], .int .i64 (rz.p : Int), .int .i64 9] W (fun e w' => e = .returned (.agg #[.string S, .int .i64 ((r7).p : Int), .int .i64 (r7).co]) ∧ Below W.heap.size W w')) := by rw [hr7]; exact fun W => HFA.out r6 rz.p 9 W
              clear h6 hr7 HIF0 g7
              obtain ⟨e26_0, e26_1, e26_2⟩ := box3 (L25.out.at (q := q) 0 rfl)
              go_wp2_with (refine stQ 1 rfl rfl rfl rfl z25 ?_)
              clear z25 e26_0 e26_1 e26_2
              with_reducible refine (HF7.out _).mono ?_
              rintro e V27 ⟨rfl, b27⟩
              have L27 := Lib.hid (L25.out.call b27)
              clear b27
              rw [← hq13, ← hq12]
              replace hq12 := Lib.hid hq12
              replace hq13 := Lib.hid hq13
              have z28 := L27.out.at (q := q) 0 rfl
              have L28 := Lib.hid (L27.out.row (q := q) 0 rfl #[.string S, .int .i64 ((r7).p : Int), .int .i64 (r7).co])
              go_wp2_with (refine stQ 1 rfl rfl rfl rfl z28 ?_)
              clear z28
              have HFN : Hid (rr.mems (kit.bytes S) f1 (x.or (span v3 v6)) r7 = (mx, mr)) := by show _ = _; rw [← HF.out, HSP.out, HIF.out]
              with_reducible refine (HSPN.out _).mono ?_
              rintro e V29 ⟨rfl, b29⟩
              have L29 := Lib.hid (L28.out.call b29)
              clear b29
              have z30 := L29.out.at (q := q9) 5 rfl
              have L30 := Lib.hid (L29.out.row (q := q9) 5 rfl #[.int .u64 (span v3 v6).a, .int .u64 (span v3 v6).b, .int .u64 (span v3 v6).c, .int .u64 (span v3 v6).d])
              have HUN : Hid (∀ W : World, Calls Try.prog 15 #[.agg #[.int .u64 x.a, .int .u64 x.b, .int .u64 x.c, .int .u64 x.d], .agg #[.int .u64 (span v3 v6).a, .int .u64 (span v3 v6).b, .int .u64 (span v3 v6).c, .int .u64 (span v3 v6).d]] W (fun e w' => e = .returned (.agg #[.int .u64 (x.or (span v3 v6)).a, .int .u64 (x.or (span v3 v6)).b, .int .u64 (x.or (span v3 v6)).c, .int .u64 (x.or (span v3 v6)).d]) ∧ Below W.heap.size W w')) := fun W => rrx_union x (span v3 v6) W OX.out OS.out
              have OXN : Hid ((x.or (span v3 v6)).ok) := or_ok OX.out OS.out
              obtain ⟨e31_0, e31_1, e31_2, e31_3⟩ := box4 (L30.out.at (q := q4) 3 rfl)
              obtain ⟨e32_0, e32_1, e32_2, e32_3⟩ := box4 (L30.out.at (q := q9) 5 rfl)
              go_wp2_with (refine stC 9 rfl rfl rfl rfl z30 ?_)
              clear z30 e31_0 e31_1 e31_2 e31_3 e32_0 e32_1 e32_2 e32_3
              with_reducible refine (HUN.out _).mono ?_
              rintro e V33 ⟨rfl, b33⟩
              have L33 := Lib.hid (L30.out.call b33)
              clear b33
              have z34 := L33.out.at (q := q4) 3 rfl
              have L34 := Lib.hid (L33.out.row (q := q4) 3 rfl #[.int .u64 (x.or (span v3 v6)).a, .int .u64 (x.or (span v3 v6)).b, .int .u64 (x.or (span v3 v6)).c, .int .u64 (x.or (span v3 v6)).d])
              go_wp2_with (refine stC 6 rfl rfl rfl rfl z34 ?_)
              clear z34
              have MU2 := Lib.hid (muR_at (r := r7) (N := S.size) (L34.out.at (q := q) 0 rfl))
              have hcz := HCO.out
              have hf0 := HPL.out hcz
              have HPL2 : Hid (r7.co = 0 → S.size + 1 ≤ f1 + r7.p) := by show _ → _; intro h; have := HPG.out h; omega
              clear hcz hf0
              go_roundw
              case rel =>
               repeat apply Exists.intro
               exact ⟨⟨f1, (x.or (span v3 v6)), r7, HFN.out, OXN.out, hrN, by have := HPL.out HCO.out; omega, HPL2.out, L34.out.take 4⟩, rfl⟩
              case measure =>
               have hmu := MU.out
               have hmu2 := MU2.out
               rw [if_pos HCO.out] at hmu
               show muR q S.size _ < muR q S.size wr
               rw [hmu, hmu2]
               split
               ·
                rename_i h; have := HPG.out h; omega
               ·
                omega
             ·
              have jv : ¬ (v6 : Int) < (v3 : Int) := by omega
              have G7 := Lib.hid g7
              clear g7
              have HIF : Hid ((if r6.co = 0 ∧ (true = false ∨ v6 < v3) then r6.fail rz.p 9 else r6) = r6) := if_neg (fun h => h.2.elim (fun h => by cases h) G7.out)
              have HPG : Hid (r6.co = 0 → rz.p < r6.p) := fun h => by have h1 := HAD4.out h; have h2 := HAD.out HCO3.out; have := P4.out; omega
              have hrN := hp6
              clear h6
              have y26 := L25.out.at (q := q) 0 rfl
              have e26_0 := boxc y26 0 _ rfl
              have e26_1 := boxc y26 1 _ rfl
              have e26_2 := boxc y26 2 _ rfl
              have f26_2 := boxf y26 2
              go_wp2_with (refine stQ 1 rfl rfl rfl rfl z25 ?_)
              clear z25 y26 e26_0 e26_1 e26_2 f26_2
              have HFN : Hid (rr.mems (kit.bytes S) f1 (x.or (span v3 v6)) r6 = (mx, mr)) := by show _ = _; rw [← HF.out, HSP.out, HIF.out]
              with_reducible refine (HSPN.out _).mono ?_
              rintro e V27 ⟨rfl, b27⟩
              have L27 := Lib.hid (L25.out.call b27)
              clear b27
              rw [← hq13, ← hq12]
              replace hq12 := Lib.hid hq12
              replace hq13 := Lib.hid hq13
              have z28 := L27.out.at (q := q9) 5 rfl
              have L28 := Lib.hid (L27.out.row (q := q9) 5 rfl #[.int .u64 (span v3 v6).a, .int .u64 (span v3 v6).b, .int .u64 (span v3 v6).c, .int .u64 (span v3 v6).d])
              have HUN : Hid (∀ W : World, Calls Try.prog 15 #[.agg #[.int .u64 x.a, .int .u64 x.b, .int .u64 x.c, .int .u64 x.d], .agg #[.int .u64 (span v3 v6).a, .int .u64 (span v3 v6).b, .int .u64 (span v3 v6).c, .int .u64 (span v3 v6).d]] W (fun e w' => e = .returned (.agg #[.int .u64 (x.or (span v3 v6)).a, .int .u64 (x.or (span v3 v6)).b, .int .u64 (x.or (span v3 v6)).c, .int .u64 (x.or (span v3 v6)).d]) ∧ Below W.heap.size W w')) := fun W => rrx_union x (span v3 v6) W OX.out OS.out
              have OXN : Hid ((x.or (span v3 v6)).ok) := or_ok OX.out OS.out
              obtain ⟨e29_0, e29_1, e29_2, e29_3⟩ := box4 (L28.out.at (q := q4) 3 rfl)
              obtain ⟨e30_0, e30_1, e30_2, e30_3⟩ := box4 (L28.out.at (q := q9) 5 rfl)
              go_wp2_with (refine stC 9 rfl rfl rfl rfl z28 ?_)
              clear z28 e29_0 e29_1 e29_2 e29_3 e30_0 e30_1 e30_2 e30_3
              with_reducible refine (HUN.out _).mono ?_
              rintro e V31 ⟨rfl, b31⟩
              have L31 := Lib.hid (L28.out.call b31)
              clear b31
              have z32 := L31.out.at (q := q4) 3 rfl
              have L32 := Lib.hid (L31.out.row (q := q4) 3 rfl #[.int .u64 (x.or (span v3 v6)).a, .int .u64 (x.or (span v3 v6)).b, .int .u64 (x.or (span v3 v6)).c, .int .u64 (x.or (span v3 v6)).d])
              go_wp2_with (refine stC 6 rfl rfl rfl rfl z32 ?_)
              clear z32
              have MU2 := Lib.hid (muR_at (r := r6) (N := S.size) (L32.out.at (q := q) 0 rfl))
              have hcz := HCO.out
              have hf0 := HPL.out hcz
              have HPL2 : Hid (r6.co = 0 → S.size + 1 ≤ f1 + r6.p) := by show _ → _; intro h; have := HPG.out h; omega
              clear hcz hf0
              go_roundw
              case rel =>
               repeat apply Exists.intro
               exact ⟨⟨f1, (x.or (span v3 v6)), r6, HFN.out, OXN.out, hrN, by have := HPL.out HCO.out; omega, HPL2.out, L32.out.take 4⟩, rfl⟩
              case measure =>
               have hmu := MU.out
               have hmu2 := MU2.out
               rw [if_pos HCO.out] at hmu
               show muR q S.size _ < muR q S.size wr
               rw [hmu, hmu2]
               split
               ·
                rename_i h; have := HPG.out h; omega
               ·
                omega
            ·
             have hb6 : b6 = false := by cases b6; rfl; exact absurd rfl g6
             subst hb6
             clear g6
             have HIF0 : Hid ((if r6.co = 0 ∧ (false = false ∨ v6 < v3) then r6.fail rz.p 9 else r6) = r6.fail rz.p 9) := if_pos (⟨h6, Or.inl rfl⟩)
             obtain ⟨r7, hr7⟩ : ∃ y, y = r6.fail rz.p 9 := ⟨_, rfl⟩
             have HIF : Hid ((if r6.co = 0 ∧ (false = false ∨ v6 < v3) then r6.fail rz.p 9 else r6) = r7) := HIF0.out.trans hr7.symm
             have HPG : Hid (r7.co = 0 → rz.p < r7.p) := fun h => absurd h (by rw [hr7]; exact rr.fail_co (by decide))
             have hrN : r7.p ≤ S.size := by rw [hr7]; exact (rr.fail_pl (lo := 0) (n := S.size) ⟨Nat.zero_le _, by omega⟩ ⟨Nat.zero_le _, hp6⟩).2
             have HF7 : Hid (∀ W : World, Calls Try.prog 23 #[.agg #[.string S, .int .i64 ((r6).p : Int), .int .i64 (r6).co], .int .i64 (rz.p : Int), .int .i64 9] W (fun e w' => e = .returned (.agg #[.string S, .int .i64 ((r7).p : Int), .int .i64 (r7).co]) ∧ Below W.heap.size W w')) := by rw [hr7]; exact fun W => HFA.out r6 rz.p 9 W
             clear h6 hr7 HIF0
             obtain ⟨e26_0, e26_1, e26_2⟩ := box3 (L25.out.at (q := q) 0 rfl)
             go_wp2_with (refine stQ 1 rfl rfl rfl rfl z25 ?_)
             clear z25 e26_0 e26_1 e26_2
             with_reducible refine (HF7.out _).mono ?_
             rintro e V27 ⟨rfl, b27⟩
             have L27 := Lib.hid (L25.out.call b27)
             clear b27
             rw [← hq13, ← hq12]
             replace hq12 := Lib.hid hq12
             replace hq13 := Lib.hid hq13
             have z28 := L27.out.at (q := q) 0 rfl
             have L28 := Lib.hid (L27.out.row (q := q) 0 rfl #[.string S, .int .i64 ((r7).p : Int), .int .i64 (r7).co])
             go_wp2_with (refine stQ 1 rfl rfl rfl rfl z28 ?_)
             clear z28
             have HFN : Hid (rr.mems (kit.bytes S) f1 (x.or (span v3 v6)) r7 = (mx, mr)) := by show _ = _; rw [← HF.out, HSP.out, HIF.out]
             with_reducible refine (HSPN.out _).mono ?_
             rintro e V29 ⟨rfl, b29⟩
             have L29 := Lib.hid (L28.out.call b29)
             clear b29
             have z30 := L29.out.at (q := q9) 5 rfl
             have L30 := Lib.hid (L29.out.row (q := q9) 5 rfl #[.int .u64 (span v3 v6).a, .int .u64 (span v3 v6).b, .int .u64 (span v3 v6).c, .int .u64 (span v3 v6).d])
             have HUN : Hid (∀ W : World, Calls Try.prog 15 #[.agg #[.int .u64 x.a, .int .u64 x.b, .int .u64 x.c, .int .u64 x.d], .agg #[.int .u64 (span v3 v6).a, .int .u64 (span v3 v6).b, .int .u64 (span v3 v6).c, .int .u64 (span v3 v6).d]] W (fun e w' => e = .returned (.agg #[.int .u64 (x.or (span v3 v6)).a, .int .u64 (x.or (span v3 v6)).b, .int .u64 (x.or (span v3 v6)).c, .int .u64 (x.or (span v3 v6)).d]) ∧ Below W.heap.size W w')) := fun W => rrx_union x (span v3 v6) W OX.out OS.out
             have OXN : Hid ((x.or (span v3 v6)).ok) := or_ok OX.out OS.out
             obtain ⟨e31_0, e31_1, e31_2, e31_3⟩ := box4 (L30.out.at (q := q4) 3 rfl)
             obtain ⟨e32_0, e32_1, e32_2, e32_3⟩ := box4 (L30.out.at (q := q9) 5 rfl)
             go_wp2_with (refine stC 9 rfl rfl rfl rfl z30 ?_)
             clear z30 e31_0 e31_1 e31_2 e31_3 e32_0 e32_1 e32_2 e32_3
             with_reducible refine (HUN.out _).mono ?_
             rintro e V33 ⟨rfl, b33⟩
             have L33 := Lib.hid (L30.out.call b33)
             clear b33
             have z34 := L33.out.at (q := q4) 3 rfl
             have L34 := Lib.hid (L33.out.row (q := q4) 3 rfl #[.int .u64 (x.or (span v3 v6)).a, .int .u64 (x.or (span v3 v6)).b, .int .u64 (x.or (span v3 v6)).c, .int .u64 (x.or (span v3 v6)).d])
             go_wp2_with (refine stC 6 rfl rfl rfl rfl z34 ?_)
             clear z34
             have MU2 := Lib.hid (muR_at (r := r7) (N := S.size) (L34.out.at (q := q) 0 rfl))
             have hcz := HCO.out
             have hf0 := HPL.out hcz
             have HPL2 : Hid (r7.co = 0 → S.size + 1 ≤ f1 + r7.p) := by show _ → _; intro h; have := HPG.out h; omega
             clear hcz hf0
             go_roundw
             case rel =>
              repeat apply Exists.intro
              exact ⟨⟨f1, (x.or (span v3 v6)), r7, HFN.out, OXN.out, hrN, by have := HPL.out HCO.out; omega, HPL2.out, L34.out.take 4⟩, rfl⟩
             case measure =>
              have hmu := MU.out
              have hmu2 := MU2.out
              rw [if_pos HCO.out] at hmu
              show muR q S.size _ < muR q S.size wr
              rw [hmu, hmu2]
              split
              ·
               rename_i h; have := HPG.out h; omega
              ·
               omega
           ·
            have cb6 : (r6.co == 0) = false := beq_eq_false_iff_ne.2 h6
            have H6 := Lib.hid h6
            have HIF : Hid ((if r6.co = 0 ∧ (b6 = false ∨ v6 < v3) then r6.fail rz.p 9 else r6) = r6) := if_neg (fun h => H6.out h.1)
            have HPG : Hid (r6.co = 0 → rz.p < r6.p) := fun h => absurd h H6.out
            have hrN := hp6
            clear h6
            have y26 := L25.out.at (q := q) 0 rfl
            have e26_0 := boxc y26 0 _ rfl
            have e26_1 := boxc y26 1 _ rfl
            have e26_2 := boxc y26 2 _ rfl
            have f26_2 := boxf y26 2
            go_wp2_with (refine stQ 1 rfl rfl rfl rfl z25 ?_)
            clear z25 y26 e26_0 e26_1 e26_2 f26_2
            have HFN : Hid (rr.mems (kit.bytes S) f1 (x.or (span v3 v6)) r6 = (mx, mr)) := by show _ = _; rw [← HF.out, HSP.out, HIF.out]
            with_reducible refine (HSPN.out _).mono ?_
            rintro e V27 ⟨rfl, b27⟩
            have L27 := Lib.hid (L25.out.call b27)
            clear b27
            rw [← hq13, ← hq12]
            replace hq12 := Lib.hid hq12
            replace hq13 := Lib.hid hq13
            have z28 := L27.out.at (q := q9) 5 rfl
            have L28 := Lib.hid (L27.out.row (q := q9) 5 rfl #[.int .u64 (span v3 v6).a, .int .u64 (span v3 v6).b, .int .u64 (span v3 v6).c, .int .u64 (span v3 v6).d])
            have HUN : Hid (∀ W : World, Calls Try.prog 15 #[.agg #[.int .u64 x.a, .int .u64 x.b, .int .u64 x.c, .int .u64 x.d], .agg #[.int .u64 (span v3 v6).a, .int .u64 (span v3 v6).b, .int .u64 (span v3 v6).c, .int .u64 (span v3 v6).d]] W (fun e w' => e = .returned (.agg #[.int .u64 (x.or (span v3 v6)).a, .int .u64 (x.or (span v3 v6)).b, .int .u64 (x.or (span v3 v6)).c, .int .u64 (x.or (span v3 v6)).d]) ∧ Below W.heap.size W w')) := fun W => rrx_union x (span v3 v6) W OX.out OS.out
            have OXN : Hid ((x.or (span v3 v6)).ok) := or_ok OX.out OS.out
            obtain ⟨e29_0, e29_1, e29_2, e29_3⟩ := box4 (L28.out.at (q := q4) 3 rfl)
            obtain ⟨e30_0, e30_1, e30_2, e30_3⟩ := box4 (L28.out.at (q := q9) 5 rfl)
            go_wp2_with (refine stC 9 rfl rfl rfl rfl z28 ?_)
            clear z28 e29_0 e29_1 e29_2 e29_3 e30_0 e30_1 e30_2 e30_3
            with_reducible refine (HUN.out _).mono ?_
            rintro e V31 ⟨rfl, b31⟩
            have L31 := Lib.hid (L28.out.call b31)
            clear b31
            have z32 := L31.out.at (q := q4) 3 rfl
            have L32 := Lib.hid (L31.out.row (q := q4) 3 rfl #[.int .u64 (x.or (span v3 v6)).a, .int .u64 (x.or (span v3 v6)).b, .int .u64 (x.or (span v3 v6)).c, .int .u64 (x.or (span v3 v6)).d])
            go_wp2_with (refine stC 6 rfl rfl rfl rfl z32 ?_)
            clear z32
            have MU2 := Lib.hid (muR_at (r := r6) (N := S.size) (L32.out.at (q := q) 0 rfl))
            have hcz := HCO.out
            have hf0 := HPL.out hcz
            have HPL2 : Hid (r6.co = 0 → S.size + 1 ≤ f1 + r6.p) := by show _ → _; intro h; have := HPG.out h; omega
            clear hcz hf0
            go_roundw
            case rel =>
             repeat apply Exists.intro
             exact ⟨⟨f1, (x.or (span v3 v6)), r6, HFN.out, OXN.out, hrN, by have := HPL.out HCO.out; omega, HPL2.out, L32.out.take 4⟩, rfl⟩
            case measure =>
             have hmu := MU.out
             have hmu2 := MU2.out
             rw [if_pos HCO.out] at hmu
             show muR q S.size _ < muR q S.size wr
             rw [hmu, hmu2]
             split
             ·
              rename_i h; have := HPG.out h; omega
             ·
              omega
         ·
          have h5' : ¬ (r4.co = 0 ∧ r4.p < (kit.bytes S).length) := by rw [HLEN.out]; exact fun h => g4 h.2
          have HM4 : Hid (∀ W : World, Calls Try.prog 30 #[.agg #[.string S, .int .i64 ((r4).p : Int), .int .i64 (r4).co]] W (fun e w' => e = .returned (.bool false) ∧ Below W.heap.size W w')) := fun W => by have h := rr_more S r4 W; rw [more_no h5'] at h; exact h
          have HC4 := Lib.hid (cur_no h5')
          clear h5' g4
          go_wp2_with fail
          clear y16 e16_0 e16_1 e16_2 f16_1 ip17 iw17 iv17 e18_0 e18_1 e18_2
          obtain ⟨V19, hV19, L19⟩ := L17.out.nm
          replace L19 := Lib.hid L19; replace hV19 := Lib.hid hV19
          rw [← hV19.out]
          with_reducible refine (HM4.out _).mono ?_
          rintro e V20 ⟨rfl, b20⟩
          have L20 := Lib.hid (L19.out.call b20)
          clear b20
          obtain ⟨e21_0, e21_1, e21_2⟩ := box3 (L20.out.at (q := q) 0 rfl)
          go_wp2_with fail
          clear e21_0 e21_1 e21_2
          obtain ⟨r5, hr5⟩ : ∃ y, y = r4.fail rz.p 9 := ⟨_, rfl⟩
          have HR5 := Lib.hid hr5
          have c5 : r5.co ≠ 0 := by rw [hr5]; exact rr.fail_co (by decide)
          have HF5 : Hid (∀ W : World, Calls Try.prog 23 #[.agg #[.string S, .int .i64 ((r4).p : Int), .int .i64 (r4).co], .int .i64 (rz.p : Int), .int .i64 9] W (fun e w' => e = .returned (.agg #[.string S, .int .i64 ((r5).p : Int), .int .i64 (r5).co]) ∧ Below W.heap.size W w')) := by rw [HR5.out]; exact fun W => HFA.out r4 rz.p 9 W
          have hx := HF.out
          rw [rr.mems_brk _ _ _ HCU.out HH9.out HD45.out (Or.inl (by rw [← HR3.out, ← HR4.out]; exact HC4.out)), ← HR3.out, ← HR4.out, ← HR5.out] at hx
          simp only [Prod.mk.injEq] at hx
          obtain ⟨rfl, rfl⟩ := hx
          have HV := Lib.hid (HM.out.trans (clsT_a c5))
          have cb : (r5.co != 0) = true := by simp [c5]
          clear c5 hr5
          with_reducible refine (HF5.out _).mono ?_
          rintro e V22 ⟨rfl, b22⟩
          have L22 := Lib.hid (L20.out.call b22)
          clear b22
          have z23 := L22.out.at (q := q) 0 rfl
          have L23 := Lib.hid (L22.out.row (q := q) 0 rfl #[.string S, .int .i64 ((r5).p : Int), .int .i64 (r5).co])
          obtain ⟨e24_0, e24_1, e24_2⟩ := box3 (L23.out.at (q := q) 0 rfl)
          obtain ⟨w9, h9, z2, z3, x2, x3, bb, ff⟩ := L23.out.two (q2 := q2) (q3 := q3) 1 2 rfl rfl (by decide) #[.string S, .int .i64 ((r5).p : Int), .int .i64 (r5).co] #[.int .i64 0, .int .u64 0, .int .u64 0, .int .u64 0, .int .u64 0, .slice none 0 0, .int .i64 0, .int .i64 0]
          replace h9 := Lib.hid h9
          go_wp2_with (first | (refine stQ 1 rfl rfl rfl rfl z23 ?_) | (refine stQ 2 rfl rfl rfl rfl z2 ?_) | (refine stT 3 rfl rfl rfl rfl z3 ?_))
          rw [← h9.out]
          clear z23 e24_0 e24_1 e24_2 z2 z3
          obtain ⟨k0, k1, k2⟩ := box3 x2
          obtain ⟨m0, m1, m2, m3, m4, m5, m6, m7⟩ := box8 x3
          refine bodyPost_ret (v := .tuple #[.agg #[.string S, .int .i64 ((r5).p : Int), .int .i64 (r5).co], .agg #[.int .i64 0, .int .u64 0, .int .u64 0, .int .u64 0, .int .u64 0, .slice none 0 0, .int .i64 0, .int .i64 0]]) (by simp [results, Try.results51, go_sem, k0, k1, k2, m0, m1, m2, m3, m4, m5, m6, m7]) rfl ?_
          exact RrA.leaf (k := 0) (cl := .zero) HV.out bb
        ·
         have jd : ((z3 : Int) == 45) = false := beq_eq_false_iff_ne.2 (by omega)
         have HND := Lib.hid gd
         clear gd
         obtain ⟨e16_0, e16_1, e16_2⟩ := box3 (L15.out.at (q := q) 0 rfl)
         have HFN : Hid (rr.mems (kit.bytes S) f1 (x.or k3) r3 = (mx, mr)) := by show _ = _; rw [← HF.out, rr.mems_plain _ _ _ HCU.out HH9.out (by rw [← HR3.out, HC3.out]; exact fun h => HND.out (Option.some.inj h.2)), ← HK3.out, ← HR3.out]
         have HPG := HAD
         have hrN := hp3
         have HUN : Hid (∀ W : World, Calls Try.prog 15 #[.agg #[.int .u64 x.a, .int .u64 x.b, .int .u64 x.c, .int .u64 x.d], .agg #[.int .u64 k3.a, .int .u64 k3.b, .int .u64 k3.c, .int .u64 k3.d]] W (fun e w' => e = .returned (.agg #[.int .u64 (x.or k3).a, .int .u64 (x.or k3).b, .int .u64 (x.or k3).c, .int .u64 (x.or k3).d]) ∧ Below W.heap.size W w')) := fun W => rrx_union x k3 W OX.out HOK.out.1
         have OXN : Hid ((x.or k3).ok) := or_ok OX.out HOK.out.1
         obtain ⟨e17_0, e17_1, e17_2, e17_3⟩ := box4 (L15.out.at (q := q4) 3 rfl)
         obtain ⟨e18_0, e18_1, e18_2, e18_3⟩ := box4 (L15.out.at (q := q9) 5 rfl)
         go_wp2_with fail
         clear e16_0 e16_1 e16_2 e17_0 e17_1 e17_2 e17_3 e18_0 e18_1 e18_2 e18_3
         with_reducible refine (HUN.out _).mono ?_
         rintro e V19 ⟨rfl, b19⟩
         have L19 := Lib.hid (L15.out.call b19)
         clear b19
         have z20 := L19.out.at (q := q4) 3 rfl
         have L20 := Lib.hid (L19.out.row (q := q4) 3 rfl #[.int .u64 (x.or k3).a, .int .u64 (x.or k3).b, .int .u64 (x.or k3).c, .int .u64 (x.or k3).d])
         go_wp2_with (refine stC 6 rfl rfl rfl rfl z20 ?_)
         clear z20
         have MU2 := Lib.hid (muR_at (r := r3) (N := S.size) (L20.out.at (q := q) 0 rfl))
         have hcz := HCO.out
         have hf0 := HPL.out hcz
         have HPL2 : Hid (r3.co = 0 → S.size + 1 ≤ f1 + r3.p) := by show _ → _; intro h; have := HPG.out h; omega
         clear hcz hf0
         go_roundw
         case rel =>
          repeat apply Exists.intro
          exact ⟨⟨f1, (x.or k3), r3, HFN.out, OXN.out, hrN, by have := HPL.out HCO.out; omega, HPL2.out, L20.out.take 4⟩, rfl⟩
         case measure =>
          have hmu := MU.out
          have hmu2 := MU2.out
          rw [if_pos HCO.out] at hmu
          show muR q S.size _ < muR q S.size wr
          rw [hmu, hmu2]
          split
          ·
           rename_i h; have := HPG.out h; omega
          ·
           omega
       ·
        have h4' : ¬ (r3.co = 0 ∧ r3.p < (kit.bytes S).length) := by rw [HLEN.out]; exact h4
        have HM3 : Hid (∀ W : World, Calls Try.prog 30 #[.agg #[.string S, .int .i64 ((r3).p : Int), .int .i64 (r3).co]] W (fun e w' => e = .returned (.bool false) ∧ Below W.heap.size W w')) := fun W => by have h := rr_more S r3 W; rw [more_no h4'] at h; exact h
        have HCN := Lib.hid (cur_no h4')
        clear h4 h4'
        with_reducible refine (HM3.out _).mono ?_
        rintro e V15 ⟨rfl, b15⟩
        have L15 := Lib.hid (L13.out.call b15)
        clear b15
        have HFN : Hid (rr.mems (kit.bytes S) f1 (x.or k3) r3 = (mx, mr)) := by show _ = _; rw [← HF.out, rr.mems_plain _ _ _ HCU.out HH9.out (by rw [← HR3.out, HCN.out]; exact fun h => by cases h.2), ← HK3.out, ← HR3.out]
        have HPG := HAD
        have hrN := hp3
        have HUN : Hid (∀ W : World, Calls Try.prog 15 #[.agg #[.int .u64 x.a, .int .u64 x.b, .int .u64 x.c, .int .u64 x.d], .agg #[.int .u64 k3.a, .int .u64 k3.b, .int .u64 k3.c, .int .u64 k3.d]] W (fun e w' => e = .returned (.agg #[.int .u64 (x.or k3).a, .int .u64 (x.or k3).b, .int .u64 (x.or k3).c, .int .u64 (x.or k3).d]) ∧ Below W.heap.size W w')) := fun W => rrx_union x k3 W OX.out HOK.out.1
        have OXN : Hid ((x.or k3).ok) := or_ok OX.out HOK.out.1
        obtain ⟨e16_0, e16_1, e16_2, e16_3⟩ := box4 (L15.out.at (q := q4) 3 rfl)
        obtain ⟨e17_0, e17_1, e17_2, e17_3⟩ := box4 (L15.out.at (q := q9) 5 rfl)
        go_wp2_with fail
        clear e16_0 e16_1 e16_2 e16_3 e17_0 e17_1 e17_2 e17_3
        with_reducible refine (HUN.out _).mono ?_
        rintro e V18 ⟨rfl, b18⟩
        have L18 := Lib.hid (L15.out.call b18)
        clear b18
        have z19 := L18.out.at (q := q4) 3 rfl
        have L19 := Lib.hid (L18.out.row (q := q4) 3 rfl #[.int .u64 (x.or k3).a, .int .u64 (x.or k3).b, .int .u64 (x.or k3).c, .int .u64 (x.or k3).d])
        go_wp2_with (refine stC 6 rfl rfl rfl rfl z19 ?_)
        clear z19
        have MU2 := Lib.hid (muR_at (r := r3) (N := S.size) (L19.out.at (q := q) 0 rfl))
        have hcz := HCO.out
        have hf0 := HPL.out hcz
        have HPL2 : Hid (r3.co = 0 → S.size + 1 ≤ f1 + r3.p) := by show _ → _; intro h; have := HPG.out h; omega
        clear hcz hf0
        go_roundw
        case rel =>
         repeat apply Exists.intro
         exact ⟨⟨f1, (x.or k3), r3, HFN.out, OXN.out, hrN, by have := HPL.out HCO.out; omega, HPL2.out, L19.out.take 4⟩, rfl⟩
        case measure =>
         have hmu := MU.out
         have hmu2 := MU2.out
         rw [if_pos HCO.out] at hmu
         show muR q S.size _ < muR q S.size wr
         rw [hmu, hmu2]
         split
         ·
          rename_i h; have := HPG.out h; omega
         ·
          omega
      ·
       have hb3 : b3 = false := by cases b3; rfl; exact absurd rfl gb
       subst hb3
       clear gb
       have HFN : Hid (rr.mems (kit.bytes S) f1 (x.or k3) r3 = (mx, mr)) := by show _ = _; rw [← HF.out, rr.mems_plain _ _ _ HCU.out HH9.out (by rw [← HB3.out]; exact fun h => by cases h.1), ← HK3.out, ← HR3.out]
       have HPG := HAD
       have hrN := hp3
       have HUN : Hid (∀ W : World, Calls Try.prog 15 #[.agg #[.int .u64 x.a, .int .u64 x.b, .int .u64 x.c, .int .u64 x.d], .agg #[.int .u64 k3.a, .int .u64 k3.b, .int .u64 k3.c, .int .u64 k3.d]] W (fun e w' => e = .returned (.agg #[.int .u64 (x.or k3).a, .int .u64 (x.or k3).b, .int .u64 (x.or k3).c, .int .u64 (x.or k3).d]) ∧ Below W.heap.size W w')) := fun W => rrx_union x k3 W OX.out HOK.out.1
       have OXN : Hid ((x.or k3).ok) := or_ok OX.out HOK.out.1
       obtain ⟨e14_0, e14_1, e14_2, e14_3⟩ := box4 (L13.out.at (q := q4) 3 rfl)
       obtain ⟨e15_0, e15_1, e15_2, e15_3⟩ := box4 (L13.out.at (q := q9) 5 rfl)
       rw [hq9] at e15_0 e15_1 e15_2 e15_3
       go_wp2_with (refine stQ 1 rfl rfl rfl rfl z13 ?_)
       clear z13 e14_0 e14_1 e14_2 e14_3 e15_0 e15_1 e15_2 e15_3
       with_reducible refine (HUN.out _).mono ?_
       rintro e V16 ⟨rfl, b16⟩
       have L16 := Lib.hid (L13.out.call b16)
       clear b16
       have z17 := L16.out.at (q := q4) 3 rfl
       have L17 := Lib.hid (L16.out.row (q := q4) 3 rfl #[.int .u64 (x.or k3).a, .int .u64 (x.or k3).b, .int .u64 (x.or k3).c, .int .u64 (x.or k3).d])
       go_wp2_with (refine stC 6 rfl rfl rfl rfl z17 ?_)
       clear z17
       have MU2 := Lib.hid (muR_at (r := r3) (N := S.size) (L17.out.at (q := q) 0 rfl))
       have hcz := HCO.out
       have hf0 := HPL.out hcz
       have HPL2 : Hid (r3.co = 0 → S.size + 1 ≤ f1 + r3.p) := by show _ → _; intro h; have := HPG.out h; omega
       clear hcz hf0
       go_roundw
       case rel =>
        repeat apply Exists.intro
        exact ⟨⟨f1, (x.or k3), r3, HFN.out, OXN.out, hrN, by have := HPL.out HCO.out; omega, HPL2.out, L17.out.take 4⟩, rfl⟩
       case measure =>
        have hmu := MU.out
        have hmu2 := MU2.out
        rw [if_pos HCO.out] at hmu
        show muR q S.size _ < muR q S.size wr
        rw [hmu, hmu2]
        split
        ·
         rename_i h; have := HPG.out h; omega
        ·
         omega
    ·
     have h0' : ¬ (rz.co = 0 ∧ rz.p < (kit.bytes S).length) := by rw [HLEN.out]; exact h0
     have HMO : Hid (∀ W : World, Calls Try.prog 30 #[.agg #[.string S, .int .i64 ((rz).p : Int), .int .i64 (rz).co]] W (fun e w' => e = .returned (.bool false) ∧ Below W.heap.size W w')) := fun W => by have h := rr_more S rz W; rw [more_no h0'] at h; exact h
     have hx := HF.out
     rw [rr.mems_stop _ _ _ (cur_no h0')] at hx
     simp only [Prod.mk.injEq] at hx
     obtain ⟨rfl, rfl⟩ := hx
     clear h0'
     obtain ⟨e7_0, e7_1, e7_2⟩ := box3 (LR.out.at (q := q) 0 rfl)
     go_wp2_with fail
     clear e7_0 e7_1 e7_2
     with_reducible refine (HMO.out _).mono ?_
     rintro e V8 ⟨rfl, b8⟩
     have L8 := Lib.hid (LR.out.call b8)
     clear b8
     by_cases gc : rz.co ≠ 0
     ·
      have cb : (rz.co != 0) = true := by simp [gc]
      have HV := Lib.hid (HM.out.trans (clsT_a gc))
      clear gc h0
      obtain ⟨e9_0, e9_1, e9_2⟩ := box3 (L8.out.at (q := q) 0 rfl)
      obtain ⟨w9, h9, z2, z3, x2, x3, bb, ff⟩ := L8.out.two (q2 := q2) (q3 := q3) 1 2 rfl rfl (by decide) #[.string S, .int .i64 ((rz).p : Int), .int .i64 (rz).co] #[.int .i64 0, .int .u64 0, .int .u64 0, .int .u64 0, .int .u64 0, .slice none 0 0, .int .i64 0, .int .i64 0]
      replace h9 := Lib.hid h9
      go_wp2_with (first | (refine stQ 2 rfl rfl rfl rfl z2 ?_) | (refine stT 3 rfl rfl rfl rfl z3 ?_))
      rw [← h9.out]
      clear e9_0 e9_1 e9_2 z2 z3
      obtain ⟨k0, k1, k2⟩ := box3 x2
      obtain ⟨m0, m1, m2, m3, m4, m5, m6, m7⟩ := box8 x3
      refine bodyPost_ret (v := .tuple #[.agg #[.string S, .int .i64 ((rz).p : Int), .int .i64 (rz).co], .agg #[.int .i64 0, .int .u64 0, .int .u64 0, .int .u64 0, .int .u64 0, .slice none 0 0, .int .i64 0, .int .i64 0]]) (by simp [results, Try.results51, go_sem, k0, k1, k2, m0, m1, m2, m3, m4, m5, m6, m7]) rfl ?_
      exact RrA.leaf (k := 0) (cl := .zero) HV.out bb
     ·
      have hco : rz.co = 0 := Decidable.not_not.1 gc
      have cb : (rz.co != 0) = false := by rw [hco]; rfl
      have hnl : (kit.bytes S).length ≤ rz.p := by rw [HLEN.out]; exact Nat.le_of_not_lt (fun hl => h0 ⟨hco, hl⟩)
      have jl2 : (S.size : Int) ≤ (rz.p : Int) := by rw [HLEN.out] at hnl; omega
      have HV := Lib.hid (HM.out.trans (clsT_b hco hnl))
      clear gc h0 hco hnl
      obtain ⟨e9_0, e9_1, e9_2⟩ := box3 (L8.out.at (q := q) 0 rfl)
      go_wp2_with fail
      clear e9_0 e9_1 e9_2
      with_reducible refine (HFA.out rz r.p 9 _).mono ?_
      rintro e V10 ⟨rfl, b10⟩
      have L10 := Lib.hid (L8.out.call b10)
      clear b10
      obtain ⟨w9, h9, z2, z3, x2, x3, bb, ff⟩ := L10.out.two (q2 := q2) (q3 := q3) 1 2 rfl rfl (by decide) #[.string S, .int .i64 (((rz.fail r.p 9)).p : Int), .int .i64 ((rz.fail r.p 9)).co] #[.int .i64 0, .int .u64 0, .int .u64 0, .int .u64 0, .int .u64 0, .slice none 0 0, .int .i64 0, .int .i64 0]
      replace h9 := Lib.hid h9
      go_wp2_with (first | (refine stQ 2 rfl rfl rfl rfl z2 ?_) | (refine stT 3 rfl rfl rfl rfl z3 ?_))
      rw [← h9.out]
      clear  z2 z3
      obtain ⟨k0, k1, k2⟩ := box3 x2
      obtain ⟨m0, m1, m2, m3, m4, m5, m6, m7⟩ := box8 x3
      refine bodyPost_ret (v := .tuple #[.agg #[.string S, .int .i64 (((rz.fail r.p 9)).p : Int), .int .i64 ((rz.fail r.p 9)).co], .agg #[.int .i64 0, .int .u64 0, .int .u64 0, .int .u64 0, .int .u64 0, .slice none 0 0, .int .i64 0, .int .i64 0]]) (by simp [results, Try.results51, go_sem, k0, k1, k2, m0, m1, m2, m3, m4, m5, m6, m7]) rfl ?_
      exact RrA.leaf (k := 0) (cl := .zero) HV.out bb
end Go.Proofs.Ytbccejlemhgioaa
