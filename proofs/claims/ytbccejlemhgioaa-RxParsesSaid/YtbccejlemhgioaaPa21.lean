/- texts put together: RrMny. -/
import Derived.Test.YtbccejlemhgioaaPa19
import Derived.Test.YtbccejlemhgioaaPa20
import Derived.Deep.CutBlock
namespace Go.Proofs.Ytbccejlemhgioaa
open Go Go.RowKit Go.ChangeShapes cl rx
open rf
theorem many_a {s : List Nat} {A : rr.R → rr.R × Pat} {r r1 : rr.R} {x : Pat} (hA : A r = (r1, x)) (h : rr.cur s r1 = none ∨ ∃ c, rr.cur s r1 = some c ∧ rr.sign c = false) : rr.many s A r = (r1, x) := by
 rw [rr.many_eq, hA]
 rcases h with h | ⟨c, h, hs⟩
 ·
  simp only [h]
 ·
  simp only [h]; rw [if_pos hs]
def sgB (s : List Nat) (r : rr.R) : Bool := match rr.cur s r with | some d => rr.sign d | none => false
theorem many_b {s : List Nat} {A : rr.R → rr.R × Pat} {r r1 r2 : rr.R} {x : Pat} {c : Nat} {a b : Int} (hA : A r = (r1, x)) (h : rr.cur s r1 = some c) (hs : rr.sign c = true) (hg : rr.signs s r1 c = (r2, a, b)) : rr.many s A r = if sgB s r2 = true then (r2.fail r2.p 9, .mk 0 .zero [] 0 0) else if (decide (r2.co ≠ 0 ∨ (a = 1 ∧ b = 1))) = true then (r2, x) else (r2, .mk 5 .zero [x] a b) := by
 rw [rr.many_eq, hA]
 simp only [h]
 rw [if_neg (by rw [hs]; decide), hg]
 simp only
 have e : (∃ d, rr.cur s r2 = some d ∧ rr.sign d = true) ↔ sgB s r2 = true := by
  unfold sgB
  cases hc : rr.cur s r2 with
  | none => simp
  | some d => simp
 by_cases h1 : sgB s r2 = true
 ·
  rw [if_pos h1, if_pos (e.2 h1)]; rfl
 ·
  rw [if_neg h1, if_neg (fun k => h1 (e.1 k))]
  by_cases h2 : r2.co ≠ 0 ∨ (a = 1 ∧ b = 1)
  ·
   rw [if_pos h2, if_pos (decide_eq_true h2)]
  ·
   rw [if_neg h2, if_neg (by rw [decide_eq_false h2]; decide)]
set_option maxHeartbeats 25600000 in
set_option maxRecDepth 100000 in
set_option linter.unusedSimpArgs false in
theorem rr_many (d g : Nat) (S : ByteArray) (A : rr.R → rr.R × Pat) (hG : rr.Gd (kit.bytes S) g A) (dp : Int) (HA : ∀ (x : rr.R) (W : World), x.p < S.size → Calls Try.prog 41 #[.agg #[.string S, .int .i64 ((x).p : Int), .int .i64 (x).co], .int .i64 dp] W (RrA (d + 1) S (A x) W)) (r : rr.R) (w : World) (hS : S.size ≤ 60) (hco : r.co = 0) (hp : r.p < S.size) : Calls Try.prog 37 #[.agg #[.string S, .int .i64 ((r).p : Int), .int .i64 (r).co], .int .i64 dp] w (RrA (d + 2) S (rr.many (kit.bytes S) A r) w) := by
 have hlen : (kit.bytes S).length = S.size := by simp [kit.bytes]
 have hg0 := hG r (by rw [hlen]; exact hp) hco
 rw [hlen] at hg0
 obtain ⟨m, hm⟩ : ∃ m, m = rr.many (kit.bytes S) A r := ⟨_, rfl⟩
 rw [← hm]
 have HFA : Hid (∀ (x : rr.R) (a : Nat) (co : Int) (W : World), Calls Try.prog 23 #[.agg #[.string S, .int .i64 ((x).p : Int), .int .i64 (x).co], .int .i64 a, .int .i64 co] W (fun e w' => e = .returned (.agg #[.string S, .int .i64 (((x.fail a co)).p : Int), .int .i64 ((x.fail a co)).co]) ∧ Below W.heap.size W w')) := fun x a co W => rr_fail S x a co W
 have HAC := Lib.hid (fun W => HA r W hp)
 obtain ⟨r1, hr1⟩ : ∃ y, y = (A r).1 := ⟨_, rfl⟩
 obtain ⟨x, hx⟩ : ∃ y, y = (A r).2 := ⟨_, rfl⟩
 have HAX : Hid (A r = (r1, x)) := by show _ = _; rw [hr1, hx]
 rw [HAX.out] at HAC hg0
 have h1S : r1.p ≤ S.size := hg0.2.1
 have HM := Lib.hid hm
 have HLEN := Lib.hid hlen
 clear hlen hm hr1 hx hg0 HA hG hco
 obtain ⟨q, hq⟩ : ∃ x, x = w.heap.size := ⟨_, rfl⟩
 have L1 := Lib.hid ((Lop.nil w).add (q := q) 48 #[.string S, .int .i64 ((r).p : Int), .int .i64 (r).co] hq)
 obtain ⟨q2, hq2⟩ : ∃ x, x = w.heap.size + 1 := ⟨_, rfl⟩
 have L2 := Lib.hid (L1.out.add (q := q2) 48 #[.string ⟨#[]⟩, .int .i64 0, .int .i64 0] (by simp only [World.size_alloc]; exact hq2))
 obtain ⟨q3, hq3⟩ : ∃ x, x = w.heap.size + 1 + 1 := ⟨_, rfl⟩
 have L3 := Lib.hid (L2.out.add (q := q3) 28 #[.int .i64 0, .int .u64 0, .int .u64 0, .int .u64 0, .int .u64 0, .slice none 0 0, .int .i64 0, .int .i64 0] (by simp only [World.size_alloc]; exact hq3))
 obtain ⟨V4, hV4, L4⟩ := L3.out.nm
 replace L4 := Lib.hid L4; replace hV4 := Lib.hid hV4
 replace hq := Lib.hid hq
 replace hq2 := Lib.hid hq2
 replace hq3 := Lib.hid hq3
 go_enter Try.func37, Try.ntmps37
 go_wp2_with fail
 rw [← hV4.out, ← hq3.out, ← hq2.out, ← hq.out]
 with_reducible refine (HAC.out _).mono ?_
 rintro e V5 ⟨c5, rfl, f5, b5⟩
 obtain ⟨ko5, kn5, kc5, rfl⟩ := rx_form f5.at
 have L5 := Lib.hid (L4.out.keep b5 f5)
 clear b5 f5
 clear HAC hp
 obtain ⟨q6, hq6⟩ : ∃ x, x = V5.heap.size := ⟨_, rfl⟩
 have L6 := Lib.hid (L5.out.add (q := q6) 28 #[.int .i64 0, .int .u64 0, .int .u64 0, .int .u64 0, .int .u64 0, .slice none 0 0, .int .i64 0, .int .i64 0] hq6)
 have z7 := L6.out.at (q := q) 0 rfl
 have L7 := Lib.hid (L6.out.row (q := q) 0 rfl #[.string S, .int .i64 ((r1).p : Int), .int .i64 (r1).co])
 have z8 := L7.out.at (q := q6) 3 rfl
 have L8 := Lib.hid (L7.out.row (q := q6) 3 rfl #[.int .i64 x.k, .int .u64 x.cl.a, .int .u64 x.cl.b, .int .u64 x.cl.c, .int .u64 x.cl.d, .slice ko5 kn5 kc5, .int .i64 x.mn, .int .i64 x.mx])
 rw [hq6] at z8
 obtain ⟨e9_0, e9_1, e9_2⟩ := box3 (L8.out.at (q := q) 0 rfl)
 rw [hq6] at e9_0 e9_1 e9_2
 go_wp2_with (first | (refine stQ 2 rfl rfl rfl rfl z7 ?_) | (refine stT 6 rfl rfl rfl rfl z8 ?_))
 clear z7 z8 e9_0 e9_1 e9_2
 rw [← hq6]
 replace hq6 := Lib.hid hq6
 obtain ⟨V10, hV10, L10⟩ := L8.out.nm
 replace L10 := Lib.hid L10; replace hV10 := Lib.hid hV10
 rw [← hV10.out]
 by_cases h0 : r1.co = 0 ∧ r1.p < S.size
 ·
  obtain ⟨hc0, hpl⟩ := h0
  have hpl' : r1.p < (kit.bytes S).length := by rw [HLEN.out]; exact hpl
  have HMO : Hid (∀ W : World, Calls Try.prog 30 #[.agg #[.string S, .int .i64 ((r1).p : Int), .int .i64 (r1).co]] W (fun e w' => e = .returned (.bool true) ∧ Below W.heap.size W w')) := fun W => by have h := rr_more S r1 W; rw [more_yes hc0 hpl'] at h; exact h
  obtain ⟨z, hz⟩ : ∃ z, z = (S[r1.p]'hpl).toNat := ⟨_, rfl⟩
  have hby : (kit.bytes S)[r1.p]? = some z := by rw [byte_at hpl, hz]
  replace hz := hz.symm
  have jl : (r1.p : Int) < (S.size : Int) := by omega
  have HCU : Hid (rr.cur (kit.bytes S) r1 = some z) := cur_at hc0 hby
  obtain ⟨r2, a, b, hsg⟩ : ∃ r2 a b, rr.signs (kit.bytes S) r1 z = (r2, a, b) := ⟨_, _, _, rfl⟩
  have h2S : r2.p ≤ S.size := by have h := (rr.signs_pl (kit.bytes S) (r := r1) z hpl').2.1; rw [hsg, HLEN.out] at h; exact h
  have HSG := Lib.hid hsg
  have HCO1 := Lib.hid hc0
  clear hsg hby hc0 hpl'
  with_reducible refine (HMO.out _).mono ?_
  rintro e V11 ⟨rfl, b11⟩
  have L11 := Lib.hid (L10.out.call b11)
  clear b11
  obtain ⟨e12_0, e12_1, e12_2⟩ := box3 (L11.out.at (q := q) 0 rfl)
  go_upto_block 0 with (fail)
  clear e12_0 e12_1 e12_2
  clear hz jl
  go_cut [7, 8] (fun c7 c8 wx => c7 = .int .i64 a ∧ c8 = .int .i64 b ∧ rr.sign z = true ∧ Lop w wx [(q, 48, #[.string S, .int .i64 ((r2).p : Int), .int .i64 (r2).co]), (q2, 48, #[.string ⟨#[]⟩, .int .i64 0, .int .i64 0]), (q3, 28, #[.int .i64 0, .int .u64 0, .int .u64 0, .int .u64 0, .int .u64 0, .slice none 0 0, .int .i64 0, .int .i64 0]), (q6, 28, #[.int .i64 x.k, .int .u64 x.cl.a, .int .u64 x.cl.b, .int .u64 x.cl.c, .int .u64 x.cl.d, .slice ko5 kn5 kc5, .int .i64 x.mn, .int .i64 x.mx])] (fun W => rxR (d + 1) W W.heap.size [.int .i64 x.k, .int .u64 x.cl.a, .int .u64 x.cl.b, .int .u64 x.cl.c, .int .u64 x.cl.d, .slice ko5 kn5 kc5, .int .i64 x.mn, .int .i64 x.mx] x))
  case first =>
   by_cases g1 : z = 42
   ·
    have hs := HSG.out
    rw [g1] at hs
    rw [show rr.signs (kit.bytes S) r1 42 = (r1.fwd, 0, -1) from rfl] at hs
    simp only [Prod.mk.injEq] at hs
    obtain ⟨h2, rfl, rfl⟩ := hs
    have HR2 : Hid (r2 = r1.fwd) := h2.symm
    have HS : Hid (rr.sign z = true) := by show _ = _; rw [g1]; rfl
    have j42 : ((z : Int) == 42) = true := by rw [g1]; rfl
    clear h2 g1
    have y13 := L11.out.at (q := q) 0 rfl
    have e13_1 := boxc y13 1 _ rfl
    have f13_1 := boxf y13 1
    have ip14 : (r1.p : Int) + 1 = (r2.p : Int) := by rw [HR2.out]; rfl
    have iw14 : IntKind.i64.wrap (r2.p : Int) = (r2.p : Int) := IntWalk.i64_in _ (by omega)
    have iv14 : IntKind.i64.wrap ((r1.p : Int) + 1) = (r2.p : Int) := by rw [ip14]; exact iw14
    have L14 := Lib.hid (L11.out.cell (q := q) 0 rfl 1 (.int .i64 (r2.p : Int)) #[.string S, .int .i64 ((r2).p : Int), .int .i64 (r2).co] (by rw [HR2.out]; rfl))
    go_wp2_with fail
    go_meet
    exact ⟨rfl, rfl, HS.out, L14.out⟩
   ·
    have j42 : ((z : Int) == 42) = false := beq_eq_false_iff_ne.2 (by omega)
    by_cases g2 : z = 43
    ·
     have hs := HSG.out
     rw [g2] at hs
     rw [show rr.signs (kit.bytes S) r1 43 = (r1.fwd, 1, -1) from rfl] at hs
     simp only [Prod.mk.injEq] at hs
     obtain ⟨h2, rfl, rfl⟩ := hs
     have HR2 : Hid (r2 = r1.fwd) := h2.symm
     have HS : Hid (rr.sign z = true) := by show _ = _; rw [g2]; rfl
     have j43 : ((z : Int) == 43) = true := by rw [g2]; rfl
     clear h2 g2
     have y13 := L11.out.at (q := q) 0 rfl
     have e13_1 := boxc y13 1 _ rfl
     have f13_1 := boxf y13 1
     have ip14 : (r1.p : Int) + 1 = (r2.p : Int) := by rw [HR2.out]; rfl
     have iw14 : IntKind.i64.wrap (r2.p : Int) = (r2.p : Int) := IntWalk.i64_in _ (by omega)
     have iv14 : IntKind.i64.wrap ((r1.p : Int) + 1) = (r2.p : Int) := by rw [ip14]; exact iw14
     have L14 := Lib.hid (L11.out.cell (q := q) 0 rfl 1 (.int .i64 (r2.p : Int)) #[.string S, .int .i64 ((r2).p : Int), .int .i64 (r2).co] (by rw [HR2.out]; rfl))
     go_wp2_with fail
     go_meet
     exact ⟨rfl, rfl, HS.out, L14.out⟩
    ·
     have j43 : ((z : Int) == 43) = false := beq_eq_false_iff_ne.2 (by omega)
     by_cases g3 : z = 63
     ·
      have hs := HSG.out
      rw [g3] at hs
      rw [show rr.signs (kit.bytes S) r1 63 = (r1.fwd, 0, 1) from rfl] at hs
      simp only [Prod.mk.injEq] at hs
      obtain ⟨h2, rfl, rfl⟩ := hs
      have HR2 : Hid (r2 = r1.fwd) := h2.symm
      have HS : Hid (rr.sign z = true) := by show _ = _; rw [g3]; rfl
      have j63 : ((z : Int) == 63) = true := by rw [g3]; rfl
      clear h2 g3
      have y13 := L11.out.at (q := q) 0 rfl
      have e13_1 := boxc y13 1 _ rfl
      have f13_1 := boxf y13 1
      have ip14 : (r1.p : Int) + 1 = (r2.p : Int) := by rw [HR2.out]; rfl
      have iw14 : IntKind.i64.wrap (r2.p : Int) = (r2.p : Int) := IntWalk.i64_in _ (by omega)
      have iv14 : IntKind.i64.wrap ((r1.p : Int) + 1) = (r2.p : Int) := by rw [ip14]; exact iw14
      have L14 := Lib.hid (L11.out.cell (q := q) 0 rfl 1 (.int .i64 (r2.p : Int)) #[.string S, .int .i64 ((r2).p : Int), .int .i64 (r2).co] (by rw [HR2.out]; rfl))
      go_wp2_with fail
      go_meet
      exact ⟨rfl, rfl, HS.out, L14.out⟩
     ·
      have j63 : ((z : Int) == 63) = false := beq_eq_false_iff_ne.2 (by omega)
      by_cases g4 : z = 123
      ·
       have HS : Hid (rr.sign z = true) := by show _ = _; rw [g4]; rfl
       have j123 : ((z : Int) == 123) = true := by rw [g4]; rfl
       have hb : rr.bounds (kit.bytes S) r1 = (r2, a, b) := by have h := HSG.out; rw [g4] at h; exact h
       have HBD : Hid (∀ W : World, Calls Try.prog 42 #[.agg #[.string S, .int .i64 ((r1).p : Int), .int .i64 (r1).co]] W (fun e w' => e = .returned (.tuple #[.agg #[.string S, .int .i64 ((r2).p : Int), .int .i64 (r2).co], .int .i64 a, .int .i64 b]) ∧ Below W.heap.size W w')) := fun W => by have h := rr_bounds S r1 W hS hpl; rw [hb] at h; exact h
       clear g1 g2 g3 g4 hb
       obtain ⟨e13_0, e13_1, e13_2⟩ := box3 (L11.out.at (q := q) 0 rfl)
       go_wp2_with fail
       clear e13_0 e13_1 e13_2
       with_reducible refine (HBD.out _).mono ?_
       rintro e V14 ⟨rfl, b14⟩
       have L14 := Lib.hid (L11.out.call b14)
       clear b14
       have z15 := L14.out.at (q := q) 0 rfl
       have L15 := Lib.hid (L14.out.row (q := q) 0 rfl #[.string S, .int .i64 ((r2).p : Int), .int .i64 (r2).co])
       go_wp2_with (refine stQ 2 rfl rfl rfl rfl z15 ?_)
       go_meet
       exact ⟨rfl, rfl, HS.out, L15.out⟩
      ·
       have j123 : ((z : Int) == 123) = false := beq_eq_false_iff_ne.2 (by omega)
       have HNS : Hid (rr.sign z = false) := by show _ = _; unfold rr.sign; simp [g1, g2, g3, g4]
       clear g1 g2 g3 g4
       go_wp2_with fail
       have HV : Hid (m = (r1, x)) := HM.out.trans (many_a HAX.out (Or.inr ⟨z, HCU.out, HNS.out⟩))
       have N32 := Lib.hid (L11.out.nq (p := q3) (q := q2) 2 1 rfl rfl (by decide))
       have Y2 := Lib.hid (L11.out.at (q := q) 0 rfl)
       have A2 := Lib.hid (L11.out.nq (p := q) (q := q2) 0 1 rfl rfl (by decide))
       have B2 := Lib.hid (L11.out.nq (p := q) (q := q3) 0 2 rfl rfl (by decide))
       have Y6 := Lib.hid (L11.out.at (q := q6) 3 rfl)
       have A6 := Lib.hid (L11.out.nq (p := q6) (q := q2) 3 1 rfl rfl (by decide))
       have B6 := Lib.hid (L11.out.nq (p := q6) (q := q3) 3 2 rfl rfl (by decide))
       refine wp_flow 4 (fun _ => 1000) (Dr q2 q3 48 28 3 8 _) (Ts 2 3 q2 q3 48 28 #[.string S, .int .i64 ((r1).p : Int), .int .i64 (r1).co] #[.int .i64 x.k, .int .u64 x.cl.a, .int .u64 x.cl.b, .int .u64 x.cl.c, .int .u64 x.cl.d, .slice ko5 kn5 kc5, .int .i64 x.mn, .int .i64 x.mx]) (fun kF vF wF => match kF with | 0 => (vF = .agg #[.string S, .int .i64 ((r1).p : Int), .int .i64 (r1).co]) | 1 => (vF = .agg #[.int .i64 x.k, .int .u64 x.cl.a, .int .u64 x.cl.b, .int .u64 x.cl.c, .int .u64 x.cl.d, .slice ko5 kn5 kc5, .int .i64 x.mn, .int .i64 x.mx]) | 2 => (wF.heap[q2]? = some (.cells #[.string S, .int .i64 ((r1).p : Int), .int .i64 (r1).co] 48 (0, 0))) | 3 => (wF.heap[q3]? = some (.cells #[.int .i64 x.k, .int .u64 x.cl.a, .int .u64 x.cl.b, .int .u64 x.cl.c, .int .u64 x.cl.d, .slice ko5 kn5 kc5, .int .i64 x.mn, .int .i64 x.mx] 28 (0, 0))) | _ => True) (fun _ _ _ _ => True) (by kernel_rfl) (by kernel_rfl) ((Dr.refl (L11.out.at (q := q2) 1 rfl) (L11.out.at (q := q3) 2 rfl) rfl rfl).below (Below.refl _ _).drew) (fun _ _ _ hR hT => Dr.ts N32.out rfl rfl hR hT) ?_ ?_ ?_
       ·
        intro kF hkF iF hiF hne hdd hanc hdan vF wF1 wF2 h hT
        rcases (by omega : kF = 0 ∨ kF = 1 ∨ kF = 2 ∨ kF = 3) with rfl | rfl | rfl | rfl
        all_goals first | exact h | exact Ts.keep2 N32.out hne h hT | exact Ts.keep3 N32.out hne h hT
       ·
        generalize hAF : fillOf _ _ _ = AF
        replace hAF := fun x => congrFun hAF x
        simp only [List.take_succ_cons, List.take_zero, fillOf, Act.put, List.setIfInBounds_toArray, List.set_cons_zero, List.set_cons_succ, Nat.reduceAdd, Nat.zero_add] at hAF
        refine FlowAll.cons ?_ (FlowAll.cons ?_ (FlowAll.cons ?_ (FlowAll.cons ?_ FlowAll.nil)))
        all_goals
         intro xF wz hR hd K hK
         simp only [← hAF, Act.put, List.setIfInBounds_toArray, List.set_cons_zero, List.set_cons_succ] at hK ⊢
         clear hAF
         try simp only [Nat.zero_add] at hK ⊢
         try simp only [Nat.reduceAdd] at hK ⊢
        ·
         clear hd
         obtain ⟨c0, c1, c2⟩ := box3 ((hR.2.2.1 _ (lt_of_block Y2.out) A2.out B2.out).trans Y2.out)
         rw [if_pos (by rfl)]
         go_simp
         exact hK.out _ _ (Ts.no (by decide) (by decide) (Below.refl _ _)) rfl (fun _ _ _ => ⟨trivial, trivial⟩)
        ·
         clear hd
         obtain ⟨c0, c1, c2, c3, c4, c5, c6, c7⟩ := box8 ((hR.2.2.1 _ (lt_of_block Y6.out) A6.out B6.out).trans Y6.out)
         rw [if_pos (by rfl)]
         go_simp
         exact hK.out _ _ (Ts.no (by decide) (by decide) (Below.refl _ _)) rfl (fun _ _ _ => ⟨trivial, trivial⟩)
        ·
         have dd0 : ((xF 0) = .agg #[.string S, .int .i64 ((r1).p : Int), .int .i64 (r1).co]) := hd 0 (by kernel_rfl)
         clear hd
         generalize xF 0 = yy0 at *
         obtain rfl := dd0
         obtain ⟨csO, hcO, hzO⟩ := hR.2.2.2.1
         rw [if_pos (by rfl)]
         refine wp_store_row 48 (.tmp 4) (.tmp 25) rfl q2 #[.string S, .int .i64 ((r1).p : Int), .int .i64 (r1).co] rfl rfl 48 csO hzO rdsize hcO (by simp [Value.oneCell']) ?_
         exact hK.out undef _ (Ts.is2 (by decide) KX.row (setRow_heap _ _ _ _ _ _ hzO)) (setRow_heap _ _ _ _ _ _ hzO) (fun _ _ _ => ⟨trivial, trivial⟩)
        ·
         have dd1 : ((xF 1) = .agg #[.int .i64 x.k, .int .u64 x.cl.a, .int .u64 x.cl.b, .int .u64 x.cl.c, .int .u64 x.cl.d, .slice ko5 kn5 kc5, .int .i64 x.mn, .int .i64 x.mx]) := hd 1 (by kernel_rfl)
         clear hd
         generalize xF 1 = yy1 at *
         obtain rfl := dd1
         obtain ⟨csO, hcO, hzO⟩ := hR.2.2.2.2
         rw [if_pos (by rfl)]
         refine wp_store_row 28 (.tmp 5) (.tmp 26) rfl q3 #[.int .i64 x.k, .int .u64 x.cl.a, .int .u64 x.cl.b, .int .u64 x.cl.c, .int .u64 x.cl.d, .slice ko5 kn5 kc5, .int .i64 x.mn, .int .i64 x.mx] rfl rfl 28 csO hzO rsize hcO (by simp [Value.oneCell']) ?_
         exact hK.out undef _ (Ts.is3 KX.row (setRow_heap _ _ _ _ _ _ hzO)) (setRow_heap _ _ _ _ _ _ hzO) (fun _ _ _ => ⟨trivial, trivial⟩)
       intro xF wz hR hF hP
       have hh2 : wz.heap[q2]? = some (.cells #[.string S, .int .i64 ((r1).p : Int), .int .i64 (r1).co] 48 (0, 0)) := hF 2 (by omega) (by decide)
       have hh3 : wz.heap[q3]? = some (.cells #[.int .i64 x.k, .int .u64 x.cl.a, .int .u64 x.cl.b, .int .u64 x.cl.c, .int .u64 x.cl.d, .slice ko5 kn5 kc5, .int .i64 x.mn, .int .i64 x.mx] 28 (0, 0)) := hF 3 (by omega) (by decide)
       obtain ⟨bb, ff⟩ := L11.out.drend (q2 := q2) (q3 := q3) 1 2 rfl rfl (by decide) hR hh2 hh3
       clear hP hF hR
       simp only [List.take_succ_cons, List.take_zero, List.drop_succ_cons, List.drop_zero, fillOf, Act.put, List.setIfInBounds_toArray, List.set_cons_zero, List.set_cons_succ, Nat.reduceAdd, Nat.zero_add]
       try generalize xF 0 = yy0
       try generalize xF 1 = yy1
       try generalize xF 2 = yy2
       try generalize xF 3 = yy3
       clear xF
       obtain ⟨k0, k1, k2⟩ := box3 hh2
       obtain ⟨m0, m1, m2, m3, m4, m5, m6, m7⟩ := box8 hh3
       go_wp2_with fail
       refine bodyPost_ret (v := .tuple #[.agg #[.string S, .int .i64 ((r1).p : Int), .int .i64 (r1).co], .agg #[.int .i64 x.k, .int .u64 x.cl.a, .int .u64 x.cl.b, .int .u64 x.cl.c, .int .u64 x.cl.d, .slice ko5 kn5 kc5, .int .i64 x.mn, .int .i64 x.mx]]) (by simp [results, Try.results37, go_sem, k0, k1, k2, m0, m1, m2, m3, m4, m5, m6, m7]) rfl ?_
       exact RrA.of (c := [.int .i64 x.k, .int .u64 x.cl.a, .int .u64 x.cl.b, .int .u64 x.cl.c, .int .u64 x.cl.d, .slice ko5 kn5 kc5, .int .i64 x.mn, .int .i64 x.mx]) HV.out (fre_le (by omega) ff) bb
  case rest =>
   obtain ⟨rfl, rfl, hsz, hL0⟩ := hcut
   have L0 := Lib.hid hL0
   have HSZ := Lib.hid hsz
   clear hL0 hsz
   have HMB := Lib.hid (HM.out.trans (many_b HAX.out HCU.out HSZ.out HSG.out))
   obtain ⟨sb, hsb⟩ : ∃ y, y = sgB (kit.bytes S) r2 := ⟨_, rfl⟩
   rw [← hsb] at HMB
   have HSB := Lib.hid hsb
   clear hsb
   go_upto_region 18 with (fail)
   go_cut [86] (fun c wx => c = .bool sb ∧ Lop w wx [(q, 48, #[.string S, .int .i64 ((r2).p : Int), .int .i64 (r2).co]), (q2, 48, #[.string ⟨#[]⟩, .int .i64 0, .int .i64 0]), (q3, 28, #[.int .i64 0, .int .u64 0, .int .u64 0, .int .u64 0, .int .u64 0, .slice none 0 0, .int .i64 0, .int .i64 0]), (q6, 28, #[.int .i64 x.k, .int .u64 x.cl.a, .int .u64 x.cl.b, .int .u64 x.cl.c, .int .u64 x.cl.d, .slice ko5 kn5 kc5, .int .i64 x.mn, .int .i64 x.mx])] (fun W => rxR (d + 1) W W.heap.size [.int .i64 x.k, .int .u64 x.cl.a, .int .u64 x.cl.b, .int .u64 x.cl.c, .int .u64 x.cl.d, .slice ko5 kn5 kc5, .int .i64 x.mn, .int .i64 x.mx] x))
   case first =>
    obtain ⟨e13_0, e13_1, e13_2⟩ := box3 (L0.out.at (q := q) 0 rfl)
    go_wp2_with fail
    clear e13_0 e13_1 e13_2
    by_cases h3 : r2.co = 0 ∧ r2.p < S.size
    ·
     obtain ⟨hc2, hpl2⟩ := h3
     have hpl2' : r2.p < (kit.bytes S).length := by rw [HLEN.out]; exact hpl2
     have HM2 : Hid (∀ W : World, Calls Try.prog 30 #[.agg #[.string S, .int .i64 ((r2).p : Int), .int .i64 (r2).co]] W (fun e w' => e = .returned (.bool true) ∧ Below W.heap.size W w')) := fun W => by have h := rr_more S r2 W; rw [more_yes hc2 hpl2'] at h; exact h
     obtain ⟨y, hy⟩ : ∃ z, z = (S[r2.p]'hpl2).toNat := ⟨_, rfl⟩
     have hby2 : (kit.bytes S)[r2.p]? = some y := by rw [byte_at hpl2, hy]
     replace hy := hy.symm
     have jl2 : (r2.p : Int) < (S.size : Int) := by omega
     have HVB : Hid (sb = rr.sign y) := by show _ = _; rw [HSB.out]; unfold sgB; rw [cur_at hc2 hby2]
     clear hby2 hc2 hpl2'
     with_reducible refine (HM2.out _).mono ?_
     rintro e V14 ⟨rfl, b14⟩
     have L14 := Lib.hid (L0.out.call b14)
     clear b14
     obtain ⟨e15_0, e15_1, e15_2⟩ := box3 (L14.out.at (q := q) 0 rfl)
     by_cases t1 : y = 42
     ·
      have HVC : Hid (sb = true) := by show _ = _; rw [HVB.out, t1]; rfl
      have i1 : ((y : Int) == 42) = true := by rw [t1]; rfl
      clear t1
      go_wp2_with fail
      go_meet
      exact ⟨by rw [HVC.out], L14.out⟩
     ·
      have i1 : ((y : Int) == 42) = false := beq_eq_false_iff_ne.2 (by omega)
      by_cases t2 : y = 43
      ·
       have HVC : Hid (sb = true) := by show _ = _; rw [HVB.out, t2]; rfl
       have i2 : ((y : Int) == 43) = true := by rw [t2]; rfl
       clear t1 t2
       go_wp2_with fail
       go_meet
       exact ⟨by rw [HVC.out], L14.out⟩
      ·
       have i2 : ((y : Int) == 43) = false := beq_eq_false_iff_ne.2 (by omega)
       by_cases t3 : y = 63
       ·
        have HVC : Hid (sb = true) := by show _ = _; rw [HVB.out, t3]; rfl
        have i3 : ((y : Int) == 63) = true := by rw [t3]; rfl
        clear t1 t2 t3
        go_wp2_with fail
        go_meet
        exact ⟨by rw [HVC.out], L14.out⟩
       ·
        have i3 : ((y : Int) == 63) = false := beq_eq_false_iff_ne.2 (by omega)
        by_cases t4 : y = 123
        ·
         have HVC : Hid (sb = true) := by show _ = _; rw [HVB.out, t4]; rfl
         have i4 : ((y : Int) == 123) = true := by rw [t4]; rfl
         clear t1 t2 t3 t4
         go_wp2_with fail
         go_meet
         exact ⟨by rw [HVC.out], L14.out⟩
        ·
         have i4 : ((y : Int) == 123) = false := beq_eq_false_iff_ne.2 (by omega)
         have HVC : Hid (sb = false) := by show _ = _; rw [HVB.out]; unfold rr.sign; simp [t1, t2, t3, t4]
         clear t1 t2 t3 t4
         go_wp2_with fail
         go_meet
         exact ⟨by rw [HVC.out], L14.out⟩
    ·
     have h3' : ¬ (r2.co = 0 ∧ r2.p < (kit.bytes S).length) := by rw [HLEN.out]; exact h3
     have HM2 : Hid (∀ W : World, Calls Try.prog 30 #[.agg #[.string S, .int .i64 ((r2).p : Int), .int .i64 (r2).co]] W (fun e w' => e = .returned (.bool false) ∧ Below W.heap.size W w')) := fun W => by have h := rr_more S r2 W; rw [more_no h3'] at h; exact h
     have HVB : Hid (sb = false) := by show _ = _; rw [HSB.out]; unfold sgB; rw [cur_no h3']
     clear h3 h3'
     with_reducible refine (HM2.out _).mono ?_
     rintro e V14 ⟨rfl, b14⟩
     have L14 := Lib.hid (L0.out.call b14)
     clear b14
     go_wp2_with fail
     go_meet
     exact ⟨by rw [HVB.out], L14.out⟩
   case rest =>
    obtain ⟨rfl, hL1⟩ := hcut
    have L1 := Lib.hid hL1
    clear hL1
    cases sb with
    | true =>
     have HV : Hid (m = (r2.fail r2.p 9, .mk 0 .zero [] 0 0)) := HMB.out
     obtain ⟨e13_0, e13_1, e13_2⟩ := box3 (L1.out.at (q := q) 0 rfl)
     go_wp2_with fail
     clear e13_0 e13_1 e13_2
     with_reducible refine (HFA.out r2 r2.p 9 _).mono ?_
     rintro e V14 ⟨rfl, b14⟩
     have L14 := Lib.hid (L1.out.call b14)
     clear b14
     obtain ⟨w9, h9, z2, z3, hh2, hh3, bb, ff⟩ := L14.out.two (q2 := q2) (q3 := q3) 1 2 rfl rfl (by decide) #[.string S, .int .i64 (((r2.fail r2.p 9)).p : Int), .int .i64 ((r2.fail r2.p 9)).co] #[.int .i64 0, .int .u64 0, .int .u64 0, .int .u64 0, .int .u64 0, .slice none 0 0, .int .i64 0, .int .i64 0]
     replace h9 := Lib.hid h9
     go_wp2_with (first | (refine stQ 4 rfl rfl rfl rfl z2 ?_) | (refine stT 5 rfl rfl rfl rfl z3 ?_))
     rw [← h9.out]
     clear  z2 z3
     obtain ⟨k0, k1, k2⟩ := box3 hh2
     obtain ⟨m0, m1, m2, m3, m4, m5, m6, m7⟩ := box8 hh3
     refine bodyPost_ret (v := .tuple #[.agg #[.string S, .int .i64 (((r2.fail r2.p 9)).p : Int), .int .i64 ((r2.fail r2.p 9)).co], .agg #[.int .i64 0, .int .u64 0, .int .u64 0, .int .u64 0, .int .u64 0, .slice none 0 0, .int .i64 0, .int .i64 0]]) (by simp [results, Try.results37, go_sem, k0, k1, k2, m0, m1, m2, m3, m4, m5, m6, m7]) rfl ?_
     exact RrA.leaf (k := 0) (cl := .zero) HV.out bb
    | false =>
     have HMC := HMB.out
     rw [if_neg (by decide)] at HMC
     obtain ⟨ob, hob⟩ : ∃ y, y = decide (r2.co ≠ 0 ∨ (a = 1 ∧ b = 1)) := ⟨_, rfl⟩
     rw [← hob] at HMC
     have HOB := Lib.hid hob
     replace HMC := Lib.hid HMC
     clear hob
     go_upto_region 20 with (fail)
     go_cut [102] (fun c wx => c = .bool ob ∧ wc = wx)
     case first =>
      have y13 := L1.out.at (q := q) 0 rfl
      have e13_2 := boxc y13 2 _ rfl
      have HD : ∀ v : Bool, (decide (r2.co ≠ 0 ∨ (a = 1 ∧ b = 1)) = v) → Hid (ob = v) := fun v hv => HOB.out.trans hv
      by_cases g1 : r2.co ≠ 0
      ·
       have hv := HD true (decide_eq_true (Or.inl g1))
       have jc : (r2.co != 0) = true := by simp [g1]
       clear g1 HD
       go_wp2_with fail
       go_meet
       exact ⟨by rw [hv.out], rfl⟩
      ·
       have hc0 : r2.co = 0 := Decidable.not_not.1 g1
       have jc : (r2.co != 0) = false := by rw [hc0]; rfl
       by_cases g2 : a = 1
       ·
        have ja : (a == 1) = true := by rw [g2]; rfl
        by_cases g3 : b = 1
        ·
         have hv := HD true (decide_eq_true (Or.inr ⟨g2, g3⟩))
         have jb : (b == 1) = true := by rw [g3]; rfl
         clear g1 g2 g3 HD hc0
         go_wp2_with fail
         go_meet
         exact ⟨by rw [hv.out], rfl⟩
        ·
         have hv := HD false (decide_eq_false (fun h => h.elim g1 (fun h => g3 h.2)))
         have jb : (b == 1) = false := beq_eq_false_iff_ne.2 g3
         clear g1 g2 g3 HD hc0
         go_wp2_with fail
         go_meet
         exact ⟨by rw [hv.out], rfl⟩
       ·
        have hv := HD false (decide_eq_false (fun h => h.elim g1 (fun h => g2 h.1)))
        have ja : (a == 1) = false := beq_eq_false_iff_ne.2 g2
        clear g1 g2 HD hc0
        go_wp2_with fail
        go_meet
        exact ⟨by rw [hv.out], rfl⟩
     case rest =>
      obtain ⟨rfl, rfl⟩ := hcut
      cases ob with
      | true =>
       have HV : Hid (m = (r2, x)) := HMC.out
       go_wp2_with fail
       have N32 := Lib.hid (L1.out.nq (p := q3) (q := q2) 2 1 rfl rfl (by decide))
       have Y2 := Lib.hid (L1.out.at (q := q) 0 rfl)
       have A2 := Lib.hid (L1.out.nq (p := q) (q := q2) 0 1 rfl rfl (by decide))
       have B2 := Lib.hid (L1.out.nq (p := q) (q := q3) 0 2 rfl rfl (by decide))
       have Y6 := Lib.hid (L1.out.at (q := q6) 3 rfl)
       have A6 := Lib.hid (L1.out.nq (p := q6) (q := q2) 3 1 rfl rfl (by decide))
       have B6 := Lib.hid (L1.out.nq (p := q6) (q := q3) 3 2 rfl rfl (by decide))
       refine wp_flow 4 (fun _ => 1000) (Dr q2 q3 48 28 3 8 _) (Ts 2 3 q2 q3 48 28 #[.string S, .int .i64 ((r2).p : Int), .int .i64 (r2).co] #[.int .i64 x.k, .int .u64 x.cl.a, .int .u64 x.cl.b, .int .u64 x.cl.c, .int .u64 x.cl.d, .slice ko5 kn5 kc5, .int .i64 x.mn, .int .i64 x.mx]) (fun kF vF wF => match kF with | 0 => (vF = .agg #[.string S, .int .i64 ((r2).p : Int), .int .i64 (r2).co]) | 1 => (vF = .agg #[.int .i64 x.k, .int .u64 x.cl.a, .int .u64 x.cl.b, .int .u64 x.cl.c, .int .u64 x.cl.d, .slice ko5 kn5 kc5, .int .i64 x.mn, .int .i64 x.mx]) | 2 => (wF.heap[q2]? = some (.cells #[.string S, .int .i64 ((r2).p : Int), .int .i64 (r2).co] 48 (0, 0))) | 3 => (wF.heap[q3]? = some (.cells #[.int .i64 x.k, .int .u64 x.cl.a, .int .u64 x.cl.b, .int .u64 x.cl.c, .int .u64 x.cl.d, .slice ko5 kn5 kc5, .int .i64 x.mn, .int .i64 x.mx] 28 (0, 0))) | _ => True) (fun _ _ _ _ => True) (by kernel_rfl) (by kernel_rfl) ((Dr.refl (L1.out.at (q := q2) 1 rfl) (L1.out.at (q := q3) 2 rfl) rfl rfl).below (Below.refl _ _).drew) (fun _ _ _ hR hT => Dr.ts N32.out rfl rfl hR hT) ?_ ?_ ?_
       ·
        intro kF hkF iF hiF hne hdd hanc hdan vF wF1 wF2 h hT
        rcases (by omega : kF = 0 ∨ kF = 1 ∨ kF = 2 ∨ kF = 3) with rfl | rfl | rfl | rfl
        all_goals first | exact h | exact Ts.keep2 N32.out hne h hT | exact Ts.keep3 N32.out hne h hT
       ·
        generalize hAF : fillOf _ _ _ = AF
        replace hAF := fun x => congrFun hAF x
        simp only [List.take_succ_cons, List.take_zero, fillOf, Act.put, List.setIfInBounds_toArray, List.set_cons_zero, List.set_cons_succ, Nat.reduceAdd, Nat.zero_add] at hAF
        refine FlowAll.cons ?_ (FlowAll.cons ?_ (FlowAll.cons ?_ (FlowAll.cons ?_ FlowAll.nil)))
        all_goals
         intro xF wz hR hd K hK
         simp only [← hAF, Act.put, List.setIfInBounds_toArray, List.set_cons_zero, List.set_cons_succ] at hK ⊢
         clear hAF
         try simp only [Nat.zero_add] at hK ⊢
         try simp only [Nat.reduceAdd] at hK ⊢
        ·
         clear hd
         obtain ⟨c0, c1, c2⟩ := box3 ((hR.2.2.1 _ (lt_of_block Y2.out) A2.out B2.out).trans Y2.out)
         rw [if_pos (by rfl)]
         go_simp
         exact hK.out _ _ (Ts.no (by decide) (by decide) (Below.refl _ _)) rfl (fun _ _ _ => ⟨trivial, trivial⟩)
        ·
         clear hd
         obtain ⟨c0, c1, c2, c3, c4, c5, c6, c7⟩ := box8 ((hR.2.2.1 _ (lt_of_block Y6.out) A6.out B6.out).trans Y6.out)
         rw [if_pos (by rfl)]
         go_simp
         exact hK.out _ _ (Ts.no (by decide) (by decide) (Below.refl _ _)) rfl (fun _ _ _ => ⟨trivial, trivial⟩)
        ·
         have dd0 : ((xF 0) = .agg #[.string S, .int .i64 ((r2).p : Int), .int .i64 (r2).co]) := hd 0 (by kernel_rfl)
         clear hd
         generalize xF 0 = yy0 at *
         obtain rfl := dd0
         obtain ⟨csO, hcO, hzO⟩ := hR.2.2.2.1
         rw [if_pos (by rfl)]
         refine wp_store_row 48 (.tmp 4) (.tmp 103) rfl q2 #[.string S, .int .i64 ((r2).p : Int), .int .i64 (r2).co] rfl rfl 48 csO hzO rdsize hcO (by simp [Value.oneCell']) ?_
         exact hK.out undef _ (Ts.is2 (by decide) KX.row (setRow_heap _ _ _ _ _ _ hzO)) (setRow_heap _ _ _ _ _ _ hzO) (fun _ _ _ => ⟨trivial, trivial⟩)
        ·
         have dd1 : ((xF 1) = .agg #[.int .i64 x.k, .int .u64 x.cl.a, .int .u64 x.cl.b, .int .u64 x.cl.c, .int .u64 x.cl.d, .slice ko5 kn5 kc5, .int .i64 x.mn, .int .i64 x.mx]) := hd 1 (by kernel_rfl)
         clear hd
         generalize xF 1 = yy1 at *
         obtain rfl := dd1
         obtain ⟨csO, hcO, hzO⟩ := hR.2.2.2.2
         rw [if_pos (by rfl)]
         refine wp_store_row 28 (.tmp 5) (.tmp 104) rfl q3 #[.int .i64 x.k, .int .u64 x.cl.a, .int .u64 x.cl.b, .int .u64 x.cl.c, .int .u64 x.cl.d, .slice ko5 kn5 kc5, .int .i64 x.mn, .int .i64 x.mx] rfl rfl 28 csO hzO rsize hcO (by simp [Value.oneCell']) ?_
         exact hK.out undef _ (Ts.is3 KX.row (setRow_heap _ _ _ _ _ _ hzO)) (setRow_heap _ _ _ _ _ _ hzO) (fun _ _ _ => ⟨trivial, trivial⟩)
       intro xF wz hR hF hP
       have hh2 : wz.heap[q2]? = some (.cells #[.string S, .int .i64 ((r2).p : Int), .int .i64 (r2).co] 48 (0, 0)) := hF 2 (by omega) (by decide)
       have hh3 : wz.heap[q3]? = some (.cells #[.int .i64 x.k, .int .u64 x.cl.a, .int .u64 x.cl.b, .int .u64 x.cl.c, .int .u64 x.cl.d, .slice ko5 kn5 kc5, .int .i64 x.mn, .int .i64 x.mx] 28 (0, 0)) := hF 3 (by omega) (by decide)
       obtain ⟨bb, ff⟩ := L1.out.drend (q2 := q2) (q3 := q3) 1 2 rfl rfl (by decide) hR hh2 hh3
       clear hP hF hR
       simp only [List.take_succ_cons, List.take_zero, List.drop_succ_cons, List.drop_zero, fillOf, Act.put, List.setIfInBounds_toArray, List.set_cons_zero, List.set_cons_succ, Nat.reduceAdd, Nat.zero_add]
       try generalize xF 0 = yy0
       try generalize xF 1 = yy1
       try generalize xF 2 = yy2
       try generalize xF 3 = yy3
       clear xF
       obtain ⟨k0, k1, k2⟩ := box3 hh2
       obtain ⟨m0, m1, m2, m3, m4, m5, m6, m7⟩ := box8 hh3
       go_wp2_with fail
       refine bodyPost_ret (v := .tuple #[.agg #[.string S, .int .i64 ((r2).p : Int), .int .i64 (r2).co], .agg #[.int .i64 x.k, .int .u64 x.cl.a, .int .u64 x.cl.b, .int .u64 x.cl.c, .int .u64 x.cl.d, .slice ko5 kn5 kc5, .int .i64 x.mn, .int .i64 x.mx]]) (by simp [results, Try.results37, go_sem, k0, k1, k2, m0, m1, m2, m3, m4, m5, m6, m7]) rfl ?_
       exact RrA.of (c := [.int .i64 x.k, .int .u64 x.cl.a, .int .u64 x.cl.b, .int .u64 x.cl.c, .int .u64 x.cl.d, .slice ko5 kn5 kc5, .int .i64 x.mn, .int .i64 x.mx]) HV.out (fre_le (by omega) ff) bb
      | false =>
       have HV : Hid (m = (r2, .mk 5 .zero [x] a b)) := HMC.out
       go_wp2_with fail
       have N32 := Lib.hid (L1.out.nq (p := q3) (q := q2) 2 1 rfl rfl (by decide))
       have HN2 : Hid (q2 < wc.heap.size) := lt_of_block (L1.out.at (q := q2) 1 rfl)
       have HN3 : Hid (q3 < wc.heap.size) := lt_of_block (L1.out.at (q := q3) 2 rfl)
       have Y2 := Lib.hid (L1.out.at (q := q) 0 rfl)
       have A2 := Lib.hid (L1.out.nq (p := q) (q := q2) 0 1 rfl rfl (by decide))
       have B2 := Lib.hid (L1.out.nq (p := q) (q := q3) 0 2 rfl rfl (by decide))
       have Y6 := Lib.hid (L1.out.at (q := q6) 3 rfl)
       have A6 := Lib.hid (L1.out.nq (p := q6) (q := q2) 3 1 rfl rfl (by decide))
       have B6 := Lib.hid (L1.out.nq (p := q6) (q := q3) 3 2 rfl rfl (by decide))
       refine wp_flow 8 (fun _ => 1000) (Dr q2 q3 48 28 3 8 _) (Tm 6 7 q2 q3 48 28 #[.string S, .int .i64 ((r2).p : Int), .int .i64 (r2).co] 8) (fun kF vF wF => match kF with | 0 => (vF = .agg #[.string S, .int .i64 ((r2).p : Int), .int .i64 (r2).co]) | 1 => (vF = .agg #[.int .i64 x.k, .int .u64 x.cl.a, .int .u64 x.cl.b, .int .u64 x.cl.c, .int .u64 x.cl.d, .slice ko5 kn5 kc5, .int .i64 x.mn, .int .i64 x.mx]) | 2 => (∃ g, vF = .slice (some ⟨g, 0, none⟩) 1 1 ∧ GX wc.heap.size 28 #[.int .i64 x.k, .int .u64 x.cl.a, .int .u64 x.cl.b, .int .u64 x.cl.c, .int .u64 x.cl.d, .slice ko5 kn5 kc5, .int .i64 x.mn, .int .i64 x.mx] g wF) | 3 => (vF = .int .i64 a) | 4 => (vF = .int .i64 b) | 5 => (∃ g, vF = .agg #[.int .i64 5, .int .u64 0, .int .u64 0, .int .u64 0, .int .u64 0, .slice (some ⟨g, 0, none⟩) 1 1, .int .i64 a, .int .i64 b] ∧ GX wc.heap.size 28 #[.int .i64 x.k, .int .u64 x.cl.a, .int .u64 x.cl.b, .int .u64 x.cl.c, .int .u64 x.cl.d, .slice ko5 kn5 kc5, .int .i64 x.mn, .int .i64 x.mx] g wF) | 6 => (wF.heap[q2]? = some (.cells #[.string S, .int .i64 ((r2).p : Int), .int .i64 (r2).co] 48 (0, 0))) | 7 => (∃ g, wF.heap[q3]? = some (.cells #[.int .i64 5, .int .u64 0, .int .u64 0, .int .u64 0, .int .u64 0, .slice (some ⟨g, 0, none⟩) 1 1, .int .i64 a, .int .i64 b] 28 (0, 0)) ∧ GX wc.heap.size 28 #[.int .i64 x.k, .int .u64 x.cl.a, .int .u64 x.cl.b, .int .u64 x.cl.c, .int .u64 x.cl.d, .slice ko5 kn5 kc5, .int .i64 x.mn, .int .i64 x.mx] g wF) | _ => True) (fun _ _ _ _ => True) (by kernel_rfl) (by kernel_rfl) ((Dr.refl (L1.out.at (q := q2) 1 rfl) (L1.out.at (q := q3) 2 rfl) rfl rfl).below (Below.refl _ _).drew) (fun _ _ _ hR hT => Dr.tm N32.out rfl hR hT) ?_ ?_ ?_
       ·
        intro kF hkF iF hiF hne hdd hanc hdan vF wF1 wF2 h hT
        rcases (by omega : kF = 0 ∨ kF = 1 ∨ kF = 2 ∨ kF = 3 ∨ kF = 4 ∨ kF = 5 ∨ kF = 6 ∨ kF = 7) with rfl | rfl | rfl | rfl | rfl | rfl | rfl | rfl
        ·
         exact h
        ·
         exact h
        ·
         obtain ⟨g, e, hg⟩ := h; exact ⟨g, e, Tm.gx HN2.out HN3.out hg hT⟩
        ·
         exact h
        ·
         exact h
        ·
         obtain ⟨g, e, hg⟩ := h; exact ⟨g, e, Tm.gx HN2.out HN3.out hg hT⟩
        ·
         exact Tm.keep2 N32.out hne h hT
        ·
         obtain ⟨g, e, hg⟩ := h; exact ⟨g, Tm.keep3 N32.out hne e hT, Tm.gx HN2.out HN3.out hg hT⟩
       ·
        generalize hAF : fillOf _ _ _ = AF
        replace hAF := fun x => congrFun hAF x
        simp only [List.take_succ_cons, List.take_zero, fillOf, Act.put, List.setIfInBounds_toArray, List.set_cons_zero, List.set_cons_succ, Nat.reduceAdd, Nat.zero_add] at hAF
        refine FlowAll.cons ?_ (FlowAll.cons ?_ (FlowAll.cons ?_ (FlowAll.cons ?_ (FlowAll.cons ?_ (FlowAll.cons ?_ (FlowAll.cons ?_ (FlowAll.cons ?_ FlowAll.nil)))))))
        all_goals
         intro xF wz hR hd K hK
         simp only [← hAF, Act.put, List.setIfInBounds_toArray, List.set_cons_zero, List.set_cons_succ] at hK ⊢
         clear hAF
         try simp only [Nat.zero_add] at hK ⊢
         try simp only [Nat.reduceAdd] at hK ⊢
        ·
         clear hd
         obtain ⟨c0, c1, c2⟩ := box3 ((hR.2.2.1 _ (lt_of_block Y2.out) A2.out B2.out).trans Y2.out)
         rw [if_pos (by rfl)]
         go_simp
         exact hK.out _ _ (Tm.no (by decide) (by decide) (Below.refl _ _)) rfl (fun _ _ _ => ⟨trivial, trivial⟩)
        ·
         clear hd
         obtain ⟨c0, c1, c2, c3, c4, c5, c6, c7⟩ := box8 ((hR.2.2.1 _ (lt_of_block Y6.out) A6.out B6.out).trans Y6.out)
         rw [if_pos (by rfl)]
         go_simp
         exact hK.out _ _ (Tm.no (by decide) (by decide) (Below.refl _ _)) rfl (fun _ _ _ => ⟨trivial, trivial⟩)
        ·
         have dd1 : ((xF 1) = .agg #[.int .i64 x.k, .int .u64 x.cl.a, .int .u64 x.cl.b, .int .u64 x.cl.c, .int .u64 x.cl.d, .slice ko5 kn5 kc5, .int .i64 x.mn, .int .i64 x.mx]) := hd 1 (by kernel_rfl)
         clear hd
         generalize xF 1 = yy1 at *
         obtain rfl := dd1
         have hsz := hR.2.1
         rw [if_pos (by rfl)]
         go_simp
         exact hK.out _ _ (Tm.no (by decide) (by decide) (below1)) ⟨_, rfl, hsz, heap_alloc_new _ _⟩ (fun _ _ _ => ⟨trivial, trivial⟩)
        ·
         clear hd
         rw [if_pos (by rfl)]
         go_simp
         exact hK.out _ _ (Tm.no (by decide) (by decide) (Below.refl _ _)) rfl (fun _ _ _ => ⟨trivial, trivial⟩)
        ·
         clear hd
         rw [if_pos (by rfl)]
         go_simp
         exact hK.out _ _ (Tm.no (by decide) (by decide) (Below.refl _ _)) rfl (fun _ _ _ => ⟨trivial, trivial⟩)
        ·
         have dd2 : (∃ g, (xF 2) = .slice (some ⟨g, 0, none⟩) 1 1 ∧ GX wc.heap.size 28 #[.int .i64 x.k, .int .u64 x.cl.a, .int .u64 x.cl.b, .int .u64 x.cl.c, .int .u64 x.cl.d, .slice ko5 kn5 kc5, .int .i64 x.mn, .int .i64 x.mx] g wz) := hd 2 (by kernel_rfl)
         have dd3 : ((xF 3) = .int .i64 a) := hd 3 (by kernel_rfl)
         have dd4 : ((xF 4) = .int .i64 b) := hd 4 (by kernel_rfl)
         clear hd
         generalize xF 2 = yy2 at *
         generalize xF 3 = yy3 at *
         generalize xF 4 = yy4 at *
         obtain ⟨g, rfl, hg⟩ := dd2
         obtain rfl := dd3
         obtain rfl := dd4
         rw [if_pos (by rfl)]
         go_simp
         exact hK.out _ _ (Tm.no (by decide) (by decide) (Below.refl _ _)) ⟨g, rfl, hg⟩ (fun _ _ _ => ⟨trivial, trivial⟩)
        ·
         have dd0 : ((xF 0) = .agg #[.string S, .int .i64 ((r2).p : Int), .int .i64 (r2).co]) := hd 0 (by kernel_rfl)
         clear hd
         generalize xF 0 = yy0 at *
         obtain rfl := dd0
         obtain ⟨csO, hcO, hzO⟩ := hR.2.2.2.1
         rw [if_pos (by rfl)]
         refine wp_store_row 48 (.tmp 4) (.tmp 105) rfl q2 #[.string S, .int .i64 ((r2).p : Int), .int .i64 (r2).co] rfl rfl 48 csO hzO rdsize hcO (by simp [Value.oneCell']) ?_
         exact hK.out undef _ (Tm.is2 (by decide) KX.row (setRow_heap _ _ _ _ _ _ hzO)) (setRow_heap _ _ _ _ _ _ hzO) (fun _ _ _ => ⟨trivial, trivial⟩)
        ·
         have dd5 : (∃ g, (xF 5) = .agg #[.int .i64 5, .int .u64 0, .int .u64 0, .int .u64 0, .int .u64 0, .slice (some ⟨g, 0, none⟩) 1 1, .int .i64 a, .int .i64 b] ∧ GX wc.heap.size 28 #[.int .i64 x.k, .int .u64 x.cl.a, .int .u64 x.cl.b, .int .u64 x.cl.c, .int .u64 x.cl.d, .slice ko5 kn5 kc5, .int .i64 x.mn, .int .i64 x.mx] g wz) := hd 5 (by kernel_rfl)
         clear hd
         generalize xF 5 = yy5 at *
         obtain ⟨g, rfl, hg⟩ := dd5
         obtain ⟨csO, hcO, hzO⟩ := hR.2.2.2.2
         rw [if_pos (by rfl)]
         refine wp_store_row 28 (.tmp 5) (.tmp 110) rfl q3 #[.int .i64 5, .int .u64 0, .int .u64 0, .int .u64 0, .int .u64 0, .slice (some ⟨g, 0, none⟩) 1 1, .int .i64 a, .int .i64 b] rfl rfl 28 csO hzO rsize hcO (by simp [Value.oneCell']) ?_
         exact hK.out undef _ (Tm.is3 KX.row rfl (setRow_heap _ _ _ _ _ _ hzO)) ⟨g, setRow_heap _ _ _ _ _ _ hzO, hg.1, (setRow_other _ _ _ _ (by have := hg.1; have := HN3.out; omega)).trans hg.2⟩ (fun _ _ _ => ⟨trivial, trivial⟩)
       intro xF wz hR hF hP
       have hh2 : wz.heap[q2]? = some (.cells #[.string S, .int .i64 ((r2).p : Int), .int .i64 (r2).co] 48 (0, 0)) := hF 6 (by omega) (by decide)
       obtain ⟨g, hh3, hg⟩ : ∃ g, wz.heap[q3]? = some (.cells #[.int .i64 5, .int .u64 0, .int .u64 0, .int .u64 0, .int .u64 0, .slice (some ⟨g, 0, none⟩) 1 1, .int .i64 a, .int .i64 b] 28 (0, 0)) ∧ GX wc.heap.size 28 #[.int .i64 x.k, .int .u64 x.cl.a, .int .u64 x.cl.b, .int .u64 x.cl.c, .int .u64 x.cl.d, .slice ko5 kn5 kc5, .int .i64 x.mn, .int .i64 x.mx] g wz := hF 7 (by omega) (by decide)
       obtain ⟨bb, ff0⟩ := L1.out.drend (q2 := q2) (q3 := q3) 1 2 rfl rfl (by decide) hR hh2 hh3
       have ff := FreA.imp (rows_one_at (k := 8) (c := [.int .i64 x.k, .int .u64 x.cl.a, .int .u64 x.cl.b, .int .u64 x.cl.c, .int .u64 x.cl.d, .slice ko5 kn5 kc5, .int .i64 x.mn, .int .i64 x.mx]) hg.2 (Nat.le_trans L1.out.1.1.size hg.1) ff0 rfl) (fun W h => (⟨_, _, _, rfl, h⟩ : rxR (d + 2) W W.heap.size [.int .i64 5, .int .u64 0, .int .u64 0, .int .u64 0, .int .u64 0, .slice (some ⟨g, 0, none⟩) 1 1, .int .i64 a, .int .i64 b] (.mk 5 .zero [x] a b)))
       clear hP hF hR hg ff0
       simp only [List.take_succ_cons, List.take_zero, List.drop_succ_cons, List.drop_zero, fillOf, Act.put, List.setIfInBounds_toArray, List.set_cons_zero, List.set_cons_succ, Nat.reduceAdd, Nat.zero_add]
       try generalize xF 0 = yy0
       try generalize xF 1 = yy1
       try generalize xF 2 = yy2
       try generalize xF 3 = yy3
       try generalize xF 4 = yy4
       try generalize xF 5 = yy5
       try generalize xF 6 = yy6
       try generalize xF 7 = yy7
       clear xF
       obtain ⟨k0, k1, k2⟩ := box3 hh2
       obtain ⟨m0, m1, m2, m3, m4, m5, m6, m7⟩ := box8 hh3
       go_wp2_with fail
       refine bodyPost_ret (v := .tuple #[.agg #[.string S, .int .i64 ((r2).p : Int), .int .i64 (r2).co], .agg #[.int .i64 5, .int .u64 0, .int .u64 0, .int .u64 0, .int .u64 0, .slice (some ⟨g, 0, none⟩) 1 1, .int .i64 a, .int .i64 b]]) (by simp [results, Try.results37, go_sem, k0, k1, k2, m0, m1, m2, m3, m4, m5, m6, m7]) rfl ?_
       exact RrA.of HV.out ff bb
 ·
  have h0' : ¬ (r1.co = 0 ∧ r1.p < (kit.bytes S).length) := by rw [HLEN.out]; exact h0
  have HMO : Hid (∀ W : World, Calls Try.prog 30 #[.agg #[.string S, .int .i64 ((r1).p : Int), .int .i64 (r1).co]] W (fun e w' => e = .returned (.bool false) ∧ Below W.heap.size W w')) := fun W => by have h := rr_more S r1 W; rw [more_no h0'] at h; exact h
  have HC0 := Lib.hid (cur_no h0')
  clear h0 h0'
  with_reducible refine (HMO.out _).mono ?_
  rintro e V11 ⟨rfl, b11⟩
  have L11 := Lib.hid (L10.out.call b11)
  clear b11
  go_wp2_with fail
  have HV : Hid (m = (r1, x)) := HM.out.trans (many_a HAX.out (Or.inl HC0.out))
  have N32 := Lib.hid (L11.out.nq (p := q3) (q := q2) 2 1 rfl rfl (by decide))
  have Y2 := Lib.hid (L11.out.at (q := q) 0 rfl)
  have A2 := Lib.hid (L11.out.nq (p := q) (q := q2) 0 1 rfl rfl (by decide))
  have B2 := Lib.hid (L11.out.nq (p := q) (q := q3) 0 2 rfl rfl (by decide))
  have Y6 := Lib.hid (L11.out.at (q := q6) 3 rfl)
  have A6 := Lib.hid (L11.out.nq (p := q6) (q := q2) 3 1 rfl rfl (by decide))
  have B6 := Lib.hid (L11.out.nq (p := q6) (q := q3) 3 2 rfl rfl (by decide))
  refine wp_flow 4 (fun _ => 1000) (Dr q2 q3 48 28 3 8 _) (Ts 2 3 q2 q3 48 28 #[.string S, .int .i64 ((r1).p : Int), .int .i64 (r1).co] #[.int .i64 x.k, .int .u64 x.cl.a, .int .u64 x.cl.b, .int .u64 x.cl.c, .int .u64 x.cl.d, .slice ko5 kn5 kc5, .int .i64 x.mn, .int .i64 x.mx]) (fun kF vF wF => match kF with | 0 => (vF = .agg #[.string S, .int .i64 ((r1).p : Int), .int .i64 (r1).co]) | 1 => (vF = .agg #[.int .i64 x.k, .int .u64 x.cl.a, .int .u64 x.cl.b, .int .u64 x.cl.c, .int .u64 x.cl.d, .slice ko5 kn5 kc5, .int .i64 x.mn, .int .i64 x.mx]) | 2 => (wF.heap[q2]? = some (.cells #[.string S, .int .i64 ((r1).p : Int), .int .i64 (r1).co] 48 (0, 0))) | 3 => (wF.heap[q3]? = some (.cells #[.int .i64 x.k, .int .u64 x.cl.a, .int .u64 x.cl.b, .int .u64 x.cl.c, .int .u64 x.cl.d, .slice ko5 kn5 kc5, .int .i64 x.mn, .int .i64 x.mx] 28 (0, 0))) | _ => True) (fun _ _ _ _ => True) (by kernel_rfl) (by kernel_rfl) ((Dr.refl (L11.out.at (q := q2) 1 rfl) (L11.out.at (q := q3) 2 rfl) rfl rfl).below (Below.refl _ _).drew) (fun _ _ _ hR hT => Dr.ts N32.out rfl rfl hR hT) ?_ ?_ ?_
  ·
   intro kF hkF iF hiF hne hdd hanc hdan vF wF1 wF2 h hT
   rcases (by omega : kF = 0 ∨ kF = 1 ∨ kF = 2 ∨ kF = 3) with rfl | rfl | rfl | rfl
   all_goals first | exact h | exact Ts.keep2 N32.out hne h hT | exact Ts.keep3 N32.out hne h hT
  ·
   generalize hAF : fillOf _ _ _ = AF
   replace hAF := fun x => congrFun hAF x
   simp only [List.take_succ_cons, List.take_zero, fillOf, Act.put, List.setIfInBounds_toArray, List.set_cons_zero, List.set_cons_succ, Nat.reduceAdd, Nat.zero_add] at hAF
   refine FlowAll.cons ?_ (FlowAll.cons ?_ (FlowAll.cons ?_ (FlowAll.cons ?_ FlowAll.nil)))
   all_goals
    intro xF wz hR hd K hK
    simp only [← hAF, Act.put, List.setIfInBounds_toArray, List.set_cons_zero, List.set_cons_succ] at hK ⊢
    clear hAF
    try simp only [Nat.zero_add] at hK ⊢
    try simp only [Nat.reduceAdd] at hK ⊢
   ·
    clear hd
    obtain ⟨c0, c1, c2⟩ := box3 ((hR.2.2.1 _ (lt_of_block Y2.out) A2.out B2.out).trans Y2.out)
    rw [if_pos (by rfl)]
    go_simp
    exact hK.out _ _ (Ts.no (by decide) (by decide) (Below.refl _ _)) rfl (fun _ _ _ => ⟨trivial, trivial⟩)
   ·
    clear hd
    obtain ⟨c0, c1, c2, c3, c4, c5, c6, c7⟩ := box8 ((hR.2.2.1 _ (lt_of_block Y6.out) A6.out B6.out).trans Y6.out)
    rw [if_pos (by rfl)]
    go_simp
    exact hK.out _ _ (Ts.no (by decide) (by decide) (Below.refl _ _)) rfl (fun _ _ _ => ⟨trivial, trivial⟩)
   ·
    have dd0 : ((xF 0) = .agg #[.string S, .int .i64 ((r1).p : Int), .int .i64 (r1).co]) := hd 0 (by kernel_rfl)
    clear hd
    generalize xF 0 = yy0 at *
    obtain rfl := dd0
    obtain ⟨csO, hcO, hzO⟩ := hR.2.2.2.1
    rw [if_pos (by rfl)]
    refine wp_store_row 48 (.tmp 4) (.tmp 18) rfl q2 #[.string S, .int .i64 ((r1).p : Int), .int .i64 (r1).co] rfl rfl 48 csO hzO rdsize hcO (by simp [Value.oneCell']) ?_
    exact hK.out undef _ (Ts.is2 (by decide) KX.row (setRow_heap _ _ _ _ _ _ hzO)) (setRow_heap _ _ _ _ _ _ hzO) (fun _ _ _ => ⟨trivial, trivial⟩)
   ·
    have dd1 : ((xF 1) = .agg #[.int .i64 x.k, .int .u64 x.cl.a, .int .u64 x.cl.b, .int .u64 x.cl.c, .int .u64 x.cl.d, .slice ko5 kn5 kc5, .int .i64 x.mn, .int .i64 x.mx]) := hd 1 (by kernel_rfl)
    clear hd
    generalize xF 1 = yy1 at *
    obtain rfl := dd1
    obtain ⟨csO, hcO, hzO⟩ := hR.2.2.2.2
    rw [if_pos (by rfl)]
    refine wp_store_row 28 (.tmp 5) (.tmp 19) rfl q3 #[.int .i64 x.k, .int .u64 x.cl.a, .int .u64 x.cl.b, .int .u64 x.cl.c, .int .u64 x.cl.d, .slice ko5 kn5 kc5, .int .i64 x.mn, .int .i64 x.mx] rfl rfl 28 csO hzO rsize hcO (by simp [Value.oneCell']) ?_
    exact hK.out undef _ (Ts.is3 KX.row (setRow_heap _ _ _ _ _ _ hzO)) (setRow_heap _ _ _ _ _ _ hzO) (fun _ _ _ => ⟨trivial, trivial⟩)
  intro xF wz hR hF hP
  have hh2 : wz.heap[q2]? = some (.cells #[.string S, .int .i64 ((r1).p : Int), .int .i64 (r1).co] 48 (0, 0)) := hF 2 (by omega) (by decide)
  have hh3 : wz.heap[q3]? = some (.cells #[.int .i64 x.k, .int .u64 x.cl.a, .int .u64 x.cl.b, .int .u64 x.cl.c, .int .u64 x.cl.d, .slice ko5 kn5 kc5, .int .i64 x.mn, .int .i64 x.mx] 28 (0, 0)) := hF 3 (by omega) (by decide)
  obtain ⟨bb, ff⟩ := L11.out.drend (q2 := q2) (q3 := q3) 1 2 rfl rfl (by decide) hR hh2 hh3
  clear hP hF hR
  simp only [List.take_succ_cons, List.take_zero, List.drop_succ_cons, List.drop_zero, fillOf, Act.put, List.setIfInBounds_toArray, List.set_cons_zero, List.set_cons_succ, Nat.reduceAdd, Nat.zero_add]
  try generalize xF 0 = yy0
  try generalize xF 1 = yy1
  try generalize xF 2 = yy2
  try generalize xF 3 = yy3
  clear xF
  obtain ⟨k0, k1, k2⟩ := box3 hh2
  obtain ⟨m0, m1, m2, m3, m4, m5, m6, m7⟩ := box8 hh3
  go_wp2_with fail
  refine bodyPost_ret (v := .tuple #[.agg #[.string S, .int .i64 ((r1).p : Int), .int .i64 (r1).co], .agg #[.int .i64 x.k, .int .u64 x.cl.a, .int .u64 x.cl.b, .int .u64 x.cl.c, .int .u64 x.cl.d, .slice ko5 kn5 kc5, .int .i64 x.mn, .int .i64 x.mx]]) (by simp [results, Try.results37, go_sem, k0, k1, k2, m0, m1, m2, m3, m4, m5, m6, m7]) rfl ?_
  exact RrA.of (c := [.int .i64 x.k, .int .u64 x.cl.a, .int .u64 x.cl.b, .int .u64 x.cl.c, .int .u64 x.cl.d, .slice ko5 kn5 kc5, .int .i64 x.mn, .int .i64 x.mx]) HV.out (fre_le (by omega) ff) bb
end Go.Proofs.Ytbccejlemhgioaa
