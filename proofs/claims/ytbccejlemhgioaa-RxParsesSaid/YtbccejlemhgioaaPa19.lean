/- texts put together: RrAtm. -/
import Derived.Test.YtbccejlemhgioaaPa18
namespace Go.Proofs.Ytbccejlemhgioaa
open Go Go.RowKit Go.ChangeShapes cl rx
open rf
theorem RrA.of {d : Nat} {S : ByteArray} {m : rr.R × Pat} {r : rr.R} {x : Pat} {c : List Value} {w w' : World} (h : m = (r, x)) (hf : Fre w.heap.size w' (fun W => rxR d W W.heap.size c x)) (hb : Below w.heap.size w w') : RrA d S m w (.returned (.tuple #[.agg #[.string S, .int .i64 ((r).p : Int), .int .i64 (r).co], .agg (List.toArray c)])) w' := by
 subst h
 exact ⟨c, rfl, hf, hb⟩
theorem fre_le {d e B : Nat} {w : World} {c : List Value} {x : Pat} (h : d ≤ e) (hf : Fre B w (fun W => rxR d W W.heap.size c x)) : Fre B w (fun W => rxR e W W.heap.size c x) := FreA.imp hf (fun _ k => rxR_le h k)
set_option maxHeartbeats 25600000 in
set_option maxRecDepth 100000 in
set_option linter.unusedSimpArgs false in
theorem rr_atom (d : Nat) (S : ByteArray) (E : Option (rr.R → rr.R × Pat)) (dp dm : Int) (hdm : dp - 1 = dm) (hd : 0 ≤ dp ∧ dp ≤ 12) (h0 : E = none → dp = 0) (h1 : ∀ e, E = some e → dp ≠ 0 ∧ ∀ (x : rr.R) (W : World), x.p ≤ S.size → Calls Try.prog 22 #[.agg #[.string S, .int .i64 ((x).p : Int), .int .i64 (x).co], .int .i64 dm] W (RrA (d + 1) S (e x) W)) (r : rr.R) (w : World) (hS : S.size ≤ 60) (hp : r.p < S.size) : Calls Try.prog 41 #[.agg #[.string S, .int .i64 ((r).p : Int), .int .i64 (r).co], .int .i64 dp] w (RrA (d + 1) S (rr.atom (kit.bytes S) E r) w) := by
 have hlen : (kit.bytes S).length = S.size := by simp [kit.bytes]
 obtain ⟨m, hm⟩ : ∃ m, m = rr.atom (kit.bytes S) E r := ⟨_, rfl⟩
 rw [← hm]
 unfold rr.atom at hm
 have HFA : Hid (∀ (x : rr.R) (a : Nat) (co : Int) (W : World), Calls Try.prog 23 #[.agg #[.string S, .int .i64 ((x).p : Int), .int .i64 (x).co], .int .i64 a, .int .i64 co] W (fun e w' => e = .returned (.agg #[.string S, .int .i64 (((x.fail a co)).p : Int), .int .i64 ((x.fail a co)).co]) ∧ Below W.heap.size W w')) := fun x a co W => rr_fail S x a co W
 obtain ⟨z, hz⟩ : ∃ z, z = (S[r.p]'hp).toNat := ⟨_, rfl⟩
 have hby : (kit.bytes S)[r.p]? = some z := by rw [byte_at hp, hz]
 have hz8 : z < 256 := kit.bytes_lt S z (List.mem_of_getElem? hby)
 replace hz := hz.symm
 rw [hby] at hm
 simp only at hm
 rw [hlen] at hm
 have HM := Lib.hid hm
 have jl : (r.p : Int) < (S.size : Int) := by omega
 obtain ⟨r1, hr1⟩ : ∃ x, x = r.fwd := ⟨_, rfl⟩
 have R1 := Lib.hid hr1
 have P1 : Hid (r1.p = r.p + 1) := by show _ = _; rw [hr1]; rfl
 rw [← hr1] at hm
 replace HM := Lib.hid hm
 have HD := Lib.hid hd
 clear hlen hm hby hr1 hd
 by_cases g1 : z = 40
 ·
  have HM2 := Lib.hid (HM.out.trans (if_pos g1))
  have j1 : ((z : Int) == 40) = true := by rw [g1]; rfl
  clear g1 HM
  cases E with
  | none =>
   have hd0 := h0 rfl
   subst hd0
   clear h0 h1 hdm
   have HV : Hid (m = (r.fail r.p 11, .mk 0 .zero [] 0 0)) := HM2.out
   obtain ⟨q, hq⟩ : ∃ x, x = w.heap.size := ⟨_, rfl⟩
   have L101 := Lib.hid ((Lop.nil w).add (q := q) 48 #[.string S, .int .i64 ((r).p : Int), .int .i64 (r).co] hq)
   obtain ⟨q2, hq2⟩ : ∃ x, x = w.heap.size + 1 := ⟨_, rfl⟩
   have L102 := Lib.hid (L101.out.add (q := q2) 48 #[.string ⟨#[]⟩, .int .i64 0, .int .i64 0] (by simp only [World.size_alloc]; exact hq2))
   obtain ⟨q3, hq3⟩ : ∃ x, x = w.heap.size + 1 + 1 := ⟨_, rfl⟩
   have L103 := Lib.hid (L102.out.add (q := q3) 28 #[.int .i64 0, .int .u64 0, .int .u64 0, .int .u64 0, .int .u64 0, .slice none 0 0, .int .i64 0, .int .i64 0] (by simp only [World.size_alloc]; exact hq3))
   obtain ⟨V104, hV104, L104⟩ := L103.out.nm
   replace L104 := Lib.hid L104; replace hV104 := Lib.hid hV104
   replace hq := Lib.hid hq
   replace hq2 := Lib.hid hq2
   replace hq3 := Lib.hid hq3
   go_enter Try.func41, Try.ntmps41
   go_wp2_with fail
   rw [← hV104.out, ← hq3.out, ← hq2.out, ← hq.out]
   with_reducible refine (HFA.out r r.p 11 _).mono ?_
   rintro e V105 ⟨rfl, b105⟩
   have L105 := Lib.hid (L104.out.call b105)
   clear b105
   obtain ⟨w9, h9, z2, z3, hh2, hh3, bb, ff⟩ := L105.out.two (q2 := q2) (q3 := q3) 1 2 rfl rfl (by decide) #[.string S, .int .i64 (((r.fail r.p 11)).p : Int), .int .i64 ((r.fail r.p 11)).co] #[.int .i64 0, .int .u64 0, .int .u64 0, .int .u64 0, .int .u64 0, .slice none 0 0, .int .i64 0, .int .i64 0]
   replace h9 := Lib.hid h9
   go_wp2_with (first | (refine stQ 4 rfl rfl rfl rfl z2 ?_) | (refine stT 5 rfl rfl rfl rfl z3 ?_))
   rw [← h9.out]
   clear  z2 z3
   obtain ⟨k0, k1, k2⟩ := box3 hh2
   obtain ⟨m0, m1, m2, m3, m4, m5, m6, m7⟩ := box8 hh3
   refine bodyPost_ret (v := .tuple #[.agg #[.string S, .int .i64 (((r.fail r.p 11)).p : Int), .int .i64 ((r.fail r.p 11)).co], .agg #[.int .i64 0, .int .u64 0, .int .u64 0, .int .u64 0, .int .u64 0, .slice none 0 0, .int .i64 0, .int .i64 0]]) (by simp [results, Try.results41, go_sem, k0, k1, k2, m0, m1, m2, m3, m4, m5, m6, m7]) rfl ?_
   exact RrA.leaf (k := 0) (cl := .zero) HV.out bb
  | some ef =>
   obtain ⟨hd0, HE⟩ := h1 ef rfl
   replace HE := Lib.hid HE
   have jd : (dp == 0) = false := beq_eq_false_iff_ne.2 hd0
   have hdw : IntKind.i64.wrap dm = dm := IntWalk.i64_in _ (by have := HD.out; omega)
   have hp1 : r1.p ≤ S.size := by have := P1.out; omega
   have HEC := Lib.hid (fun W => HE.out r1 W hp1)
   obtain ⟨r3, hr3⟩ : ∃ y, y = (ef r1).1 := ⟨_, rfl⟩
   obtain ⟨x3, hx3⟩ : ∃ y, y = (ef r1).2 := ⟨_, rfl⟩
   have HEX : Hid (ef r1 = (r3, x3)) := by show _ = _; rw [hr3, hx3]
   have hm2 := HM2.out
   simp only at hm2
   rw [HEX.out] at HEC hm2
   simp only at hm2
   replace HM2 := Lib.hid hm2
   clear hr3 hx3 h0 h1 HE HEX hm2
   have ii1 : (r.p : Int) + 1 = (r1.p : Int) := by have := P1.out; omega
   have iw1 : IntKind.i64.wrap (r1.p : Int) = (r1.p : Int) := IntWalk.i64_in _ (by omega)
   have co1 : r.co = r1.co := by rw [R1.out]; rfl
   clear hd0
   obtain ⟨q, hq⟩ : ∃ x, x = w.heap.size := ⟨_, rfl⟩
   have L101 := Lib.hid ((Lop.nil w).add (q := q) 48 #[.string S, .int .i64 ((r1).p : Int), .int .i64 (r1).co] hq)
   obtain ⟨q2, hq2⟩ : ∃ x, x = w.heap.size + 1 := ⟨_, rfl⟩
   have L102 := Lib.hid (L101.out.add (q := q2) 48 #[.string ⟨#[]⟩, .int .i64 0, .int .i64 0] (by simp only [World.size_alloc]; exact hq2))
   obtain ⟨q3, hq3⟩ : ∃ x, x = w.heap.size + 1 + 1 := ⟨_, rfl⟩
   have L103 := Lib.hid (L102.out.add (q := q3) 28 #[.int .i64 0, .int .u64 0, .int .u64 0, .int .u64 0, .int .u64 0, .slice none 0 0, .int .i64 0, .int .i64 0] (by simp only [World.size_alloc]; exact hq3))
   obtain ⟨V104, hV104, L104⟩ := L103.out.nm
   replace L104 := Lib.hid L104; replace hV104 := Lib.hid hV104
   replace hq := Lib.hid hq
   replace hq2 := Lib.hid hq2
   replace hq3 := Lib.hid hq3
   go_enter Try.func41, Try.ntmps41
   go_wp2_with fail
   rw [← hV104.out, ← hq3.out, ← hq2.out, ← hq.out]
   clear ii1 iw1 co1 hdw hdm jd
   with_reducible refine (HEC.out _).mono ?_
   rintro e V105 ⟨c105, rfl, f105, b105⟩
   obtain ⟨ko105, kn105, kc105, rfl⟩ := rx_form f105.at
   have L105 := Lib.hid (L104.out.keep b105 f105)
   clear b105 f105
   clear HEC
   by_cases gc : r3.co ≠ 0
   ·
    have cb : (r3.co != 0) = true := by simp [gc]
    have HV : Hid (m = (r3, .mk 0 .zero [] 0 0)) := HM2.out.trans (if_pos gc)
    clear gc HM2
    obtain ⟨q8, hq8⟩ : ∃ x, x = V105.heap.size := ⟨_, rfl⟩
    have L106 := Lib.hid (L105.out.add (q := q8) 48 #[.string S, .int .i64 ((r3).p : Int), .int .i64 (r3).co] hq8)
    obtain ⟨q9, hq9⟩ : ∃ x, x = V105.heap.size + 1 := ⟨_, rfl⟩
    have L107 := Lib.hid (L106.out.add (q := q9) 28 #[.int .i64 x3.k, .int .u64 x3.cl.a, .int .u64 x3.cl.b, .int .u64 x3.cl.c, .int .u64 x3.cl.d, .slice ko105 kn105 kc105, .int .i64 x3.mn, .int .i64 x3.mx] (by simp only [World.size_alloc]; exact hq9))
    obtain ⟨w9, h9, z2, z3, hh2, hh3, bb, ff⟩ := L107.out.two (q2 := q2) (q3 := q3) 1 2 rfl rfl (by decide) #[.string S, .int .i64 ((r3).p : Int), .int .i64 (r3).co] #[.int .i64 0, .int .u64 0, .int .u64 0, .int .u64 0, .int .u64 0, .slice none 0 0, .int .i64 0, .int .i64 0]
    replace h9 := Lib.hid h9
    go_wp2_with (first | (refine stQ 4 rfl rfl rfl rfl z2 ?_) | (refine stT 5 rfl rfl rfl rfl z3 ?_))
    rw [← h9.out]
    clear  z2 z3
    obtain ⟨k0, k1, k2⟩ := box3 hh2
    obtain ⟨m0, m1, m2, m3, m4, m5, m6, m7⟩ := box8 hh3
    refine bodyPost_ret (v := .tuple #[.agg #[.string S, .int .i64 ((r3).p : Int), .int .i64 (r3).co], .agg #[.int .i64 0, .int .u64 0, .int .u64 0, .int .u64 0, .int .u64 0, .slice none 0 0, .int .i64 0, .int .i64 0]]) (by simp [results, Try.results41, go_sem, k0, k1, k2, m0, m1, m2, m3, m4, m5, m6, m7]) rfl ?_
    exact RrA.leaf (k := 0) (cl := .zero) HV.out bb
   ·
    have hc0 : r3.co = 0 := Decidable.not_not.1 gc
    have HM3 := Lib.hid (HM2.out.trans (if_neg gc))
    clear gc HM2
    by_cases ge : S.size ≤ r3.p
    ·
     have cb : (r3.co != 0) = false := by rw [hc0]; rfl
     clear hc0
     have je : (S.size : Int) ≤ (r3.p : Int) := by omega
     have HV : Hid (m = (r3.fail r.p 9, .mk 0 .zero [] 0 0)) := HM3.out.trans (if_pos ge)
     clear ge HM3
     obtain ⟨q8, hq8⟩ : ∃ x, x = V105.heap.size := ⟨_, rfl⟩
     have L106 := Lib.hid (L105.out.add (q := q8) 48 #[.string S, .int .i64 ((r3).p : Int), .int .i64 (r3).co] hq8)
     obtain ⟨q9, hq9⟩ : ∃ x, x = V105.heap.size + 1 := ⟨_, rfl⟩
     have L107 := Lib.hid (L106.out.add (q := q9) 28 #[.int .i64 x3.k, .int .u64 x3.cl.a, .int .u64 x3.cl.b, .int .u64 x3.cl.c, .int .u64 x3.cl.d, .slice ko105 kn105 kc105, .int .i64 x3.mn, .int .i64 x3.mx] (by simp only [World.size_alloc]; exact hq9))
     go_wp2_with fail
     with_reducible refine (HFA.out r3 r.p 9 _).mono ?_
     rintro e V108 ⟨rfl, b108⟩
     have L108 := Lib.hid (L107.out.call b108)
     clear b108
     obtain ⟨w9, h9, z2, z3, hh2, hh3, bb, ff⟩ := L108.out.two (q2 := q2) (q3 := q3) 1 2 rfl rfl (by decide) #[.string S, .int .i64 (((r3.fail r.p 9)).p : Int), .int .i64 ((r3.fail r.p 9)).co] #[.int .i64 0, .int .u64 0, .int .u64 0, .int .u64 0, .int .u64 0, .slice none 0 0, .int .i64 0, .int .i64 0]
     replace h9 := Lib.hid h9
     go_wp2_with (first | (refine stQ 4 rfl rfl rfl rfl z2 ?_) | (refine stT 5 rfl rfl rfl rfl z3 ?_))
     rw [← h9.out]
     clear  z2 z3
     obtain ⟨k0, k1, k2⟩ := box3 hh2
     obtain ⟨m0, m1, m2, m3, m4, m5, m6, m7⟩ := box8 hh3
     refine bodyPost_ret (v := .tuple #[.agg #[.string S, .int .i64 (((r3.fail r.p 9)).p : Int), .int .i64 ((r3.fail r.p 9)).co], .agg #[.int .i64 0, .int .u64 0, .int .u64 0, .int .u64 0, .int .u64 0, .slice none 0 0, .int .i64 0, .int .i64 0]]) (by simp [results, Try.results41, go_sem, k0, k1, k2, m0, m1, m2, m3, m4, m5, m6, m7]) rfl ?_
     exact RrA.leaf (k := 0) (cl := .zero) HV.out bb
    ·
     have je : ¬ (S.size : Int) ≤ (r3.p : Int) := by omega
     obtain ⟨r4, hr4⟩ : ∃ y, y = r3.fwd := ⟨_, rfl⟩
     have cb : (r4.co != 0) = false := by rw [hr4]; show (r3.co != 0) = false; rw [hc0]; rfl
     have ii3 : (r3.p : Int) + 1 = (r4.p : Int) := by rw [hr4]; rfl
     have iw3 : IntKind.i64.wrap (r4.p : Int) = (r4.p : Int) := IntWalk.i64_in _ (by omega)
     have co3 : r3.co = r4.co := by rw [hr4]; rfl
     have HV : Hid (m = (r4, x3)) := by show _ = _; rw [HM3.out, if_neg ge, hr4]
     have GE := Lib.hid ge
     have jn : ¬ S.size ≤ r3.p := ge
     clear ge HM3 hr4 hc0
     obtain ⟨q8, hq8⟩ : ∃ x, x = V105.heap.size := ⟨_, rfl⟩
     have L106 := Lib.hid (L105.out.add (q := q8) 48 #[.string S, .int .i64 ((r4).p : Int), .int .i64 (r4).co] hq8)
     obtain ⟨q9, hq9⟩ : ∃ x, x = V105.heap.size + 1 := ⟨_, rfl⟩
     have L107 := Lib.hid (L106.out.add (q := q9) 28 #[.int .i64 x3.k, .int .u64 x3.cl.a, .int .u64 x3.cl.b, .int .u64 x3.cl.c, .int .u64 x3.cl.d, .slice ko105 kn105 kc105, .int .i64 x3.mn, .int .i64 x3.mx] (by simp only [World.size_alloc]; exact hq9))
     obtain ⟨V108, hV108, L108⟩ := L107.out.nm
     replace L108 := Lib.hid L108; replace hV108 := Lib.hid hV108
     replace hq8 := Lib.hid hq8
     replace hq9 := Lib.hid hq9
     go_wp2_with fail
     rw [← hV108.out, ← hq9.out, ← hq8.out]
     clear ii3 iw3 co3
     have N32 := Lib.hid (L108.out.nq (p := q3) (q := q2) 2 1 rfl rfl (by decide))
     have Y8 := Lib.hid (L108.out.at (q := q8) 3 rfl)
     have A8 := Lib.hid (L108.out.nq (p := q8) (q := q2) 3 1 rfl rfl (by decide))
     have B8 := Lib.hid (L108.out.nq (p := q8) (q := q3) 3 2 rfl rfl (by decide))
     have Y9 := Lib.hid (L108.out.at (q := q9) 4 rfl)
     have A9 := Lib.hid (L108.out.nq (p := q9) (q := q2) 4 1 rfl rfl (by decide))
     have B9 := Lib.hid (L108.out.nq (p := q9) (q := q3) 4 2 rfl rfl (by decide))
     refine wp_flow 4 (fun _ => 1000) (Dr q2 q3 48 28 3 8 _) (Ts 2 3 q2 q3 48 28 #[.string S, .int .i64 ((r4).p : Int), .int .i64 (r4).co] #[.int .i64 x3.k, .int .u64 x3.cl.a, .int .u64 x3.cl.b, .int .u64 x3.cl.c, .int .u64 x3.cl.d, .slice ko105 kn105 kc105, .int .i64 x3.mn, .int .i64 x3.mx]) (fun kF vF wF => match kF with | 0 => (vF = .agg #[.string S, .int .i64 ((r4).p : Int), .int .i64 (r4).co]) | 1 => (vF = .agg #[.int .i64 x3.k, .int .u64 x3.cl.a, .int .u64 x3.cl.b, .int .u64 x3.cl.c, .int .u64 x3.cl.d, .slice ko105 kn105 kc105, .int .i64 x3.mn, .int .i64 x3.mx]) | 2 => (wF.heap[q2]? = some (.cells #[.string S, .int .i64 ((r4).p : Int), .int .i64 (r4).co] 48 (0, 0))) | 3 => (wF.heap[q3]? = some (.cells #[.int .i64 x3.k, .int .u64 x3.cl.a, .int .u64 x3.cl.b, .int .u64 x3.cl.c, .int .u64 x3.cl.d, .slice ko105 kn105 kc105, .int .i64 x3.mn, .int .i64 x3.mx] 28 (0, 0))) | _ => True) (fun _ _ _ _ => True) (by kernel_rfl) (by kernel_rfl) ((Dr.refl (L108.out.at (q := q2) 1 rfl) (L108.out.at (q := q3) 2 rfl) rfl rfl).below (Below.refl _ _).drew) (fun _ _ _ hR hT => Dr.ts N32.out rfl rfl hR hT) ?_ ?_ ?_
     ·
      intro kF hkF iF hiF hne hdd hanc hdan vF wF1 wF2 h hT
      rcases (by omega : kF = 0 ∨ kF = 1 ∨ kF = 2 ∨ kF = 3) with rfl | rfl | rfl | rfl
      all_goals first | exact h | exact Ts.keep2 N32.out hne h hT | exact Ts.keep3 N32.out hne h hT
     ·
      generalize hAF : fillOf _ _ _ = AF
      replace hAF := fun x => congrFun hAF x
      simp only [List.take_succ_cons, List.take_zero, fillOf, Act.put, List.setIfInBounds_toArray, List.set_cons_zero, List.set_cons_succ, Nat.reduceAdd, Nat.zero_add] at hAF
      refine FlowAll.cons ?_ (FlowAll.cons ?_ (FlowAll.cons ?_ (FlowAll.cons ?_ FlowAll.nil)))
      all_goals
       intro xF wz hR hd K hK
       simp only [← hAF, Act.put, List.setIfInBounds_toArray, List.set_cons_zero, List.set_cons_succ] at hK ⊢
       clear hAF
       try simp only [Nat.zero_add] at hK ⊢
       try simp only [Nat.reduceAdd] at hK ⊢
      ·
       clear hd
       obtain ⟨c0, c1, c2⟩ := box3 ((hR.2.2.1 _ (lt_of_block Y8.out) A8.out B8.out).trans Y8.out)
       rw [if_pos (by rfl)]
       go_simp
       exact hK.out _ _ (Ts.no (by decide) (by decide) (Below.refl _ _)) rfl (fun _ _ _ => ⟨trivial, trivial⟩)
      ·
       clear hd
       obtain ⟨c0, c1, c2, c3, c4, c5, c6, c7⟩ := box8 ((hR.2.2.1 _ (lt_of_block Y9.out) A9.out B9.out).trans Y9.out)
       rw [if_pos (by rfl)]
       go_simp
       exact hK.out _ _ (Ts.no (by decide) (by decide) (Below.refl _ _)) rfl (fun _ _ _ => ⟨trivial, trivial⟩)
      ·
       have dd0 : ((xF 0) = .agg #[.string S, .int .i64 ((r4).p : Int), .int .i64 (r4).co]) := hd 0 (by kernel_rfl)
       clear hd
       generalize xF 0 = yy0 at *
       obtain rfl := dd0
       obtain ⟨csO, hcO, hzO⟩ := hR.2.2.2.1
       rw [if_pos (by rfl)]
       refine wp_store_row 48 (.tmp 4) (.tmp 60) rfl q2 #[.string S, .int .i64 ((r4).p : Int), .int .i64 (r4).co] rfl rfl 48 csO hzO rdsize hcO (by simp [Value.oneCell']) ?_
       exact hK.out undef _ (Ts.is2 (by decide) KX.row (setRow_heap _ _ _ _ _ _ hzO)) (setRow_heap _ _ _ _ _ _ hzO) (fun _ _ _ => ⟨trivial, trivial⟩)
      ·
       have dd1 : ((xF 1) = .agg #[.int .i64 x3.k, .int .u64 x3.cl.a, .int .u64 x3.cl.b, .int .u64 x3.cl.c, .int .u64 x3.cl.d, .slice ko105 kn105 kc105, .int .i64 x3.mn, .int .i64 x3.mx]) := hd 1 (by kernel_rfl)
       clear hd
       generalize xF 1 = yy1 at *
       obtain rfl := dd1
       obtain ⟨csO, hcO, hzO⟩ := hR.2.2.2.2
       rw [if_pos (by rfl)]
       refine wp_store_row 28 (.tmp 5) (.tmp 61) rfl q3 #[.int .i64 x3.k, .int .u64 x3.cl.a, .int .u64 x3.cl.b, .int .u64 x3.cl.c, .int .u64 x3.cl.d, .slice ko105 kn105 kc105, .int .i64 x3.mn, .int .i64 x3.mx] rfl rfl 28 csO hzO rsize hcO (by simp [Value.oneCell']) ?_
       exact hK.out undef _ (Ts.is3 KX.row (setRow_heap _ _ _ _ _ _ hzO)) (setRow_heap _ _ _ _ _ _ hzO) (fun _ _ _ => ⟨trivial, trivial⟩)
     intro xF wz hR hF hP
     have hh2 : wz.heap[q2]? = some (.cells #[.string S, .int .i64 ((r4).p : Int), .int .i64 (r4).co] 48 (0, 0)) := hF 2 (by omega) (by decide)
     have hh3 : wz.heap[q3]? = some (.cells #[.int .i64 x3.k, .int .u64 x3.cl.a, .int .u64 x3.cl.b, .int .u64 x3.cl.c, .int .u64 x3.cl.d, .slice ko105 kn105 kc105, .int .i64 x3.mn, .int .i64 x3.mx] 28 (0, 0)) := hF 3 (by omega) (by decide)
     obtain ⟨bb, ff⟩ := L108.out.drend (q2 := q2) (q3 := q3) 1 2 rfl rfl (by decide) hR hh2 hh3
     clear hP hF hR
     simp only [List.take_succ_cons, List.take_zero, List.drop_succ_cons, List.drop_zero, fillOf, Act.put, List.setIfInBounds_toArray, List.set_cons_zero, List.set_cons_succ, Nat.reduceAdd, Nat.zero_add]
     try generalize xF 0 = yy0
     try generalize xF 1 = yy1
     try generalize xF 2 = yy2
     try generalize xF 3 = yy3
     clear xF
     obtain ⟨k0, k1, k2⟩ := box3 hh2
     obtain ⟨m0, m1, m2, m3, m4, m5, m6, m7⟩ := box8 hh3
     go_wp2_with fail
     refine bodyPost_ret (v := .tuple #[.agg #[.string S, .int .i64 ((r4).p : Int), .int .i64 (r4).co], .agg #[.int .i64 x3.k, .int .u64 x3.cl.a, .int .u64 x3.cl.b, .int .u64 x3.cl.c, .int .u64 x3.cl.d, .slice ko105 kn105 kc105, .int .i64 x3.mn, .int .i64 x3.mx]]) (by simp [results, Try.results41, go_sem, k0, k1, k2, m0, m1, m2, m3, m4, m5, m6, m7]) rfl ?_
     exact RrA.of (c := [.int .i64 x3.k, .int .u64 x3.cl.a, .int .u64 x3.cl.b, .int .u64 x3.cl.c, .int .u64 x3.cl.d, .slice ko105 kn105 kc105, .int .i64 x3.mn, .int .i64 x3.mx]) HV.out (fre_le (by omega) ff) bb
 ·
  have HM2 := Lib.hid (HM.out.trans (if_neg g1))
  have j1 : ((z : Int) == 40) = false := beq_eq_false_iff_ne.2 (by omega)
  have G1 := Lib.hid g1
  clear HM h0 h1 hdm g1
  by_cases g2 : z = 91
  ·
   have j2 : ((z : Int) == 91) = true := by rw [g2]; rfl
   have HV0 : Hid (m = rr.cls (kit.bytes S) r) := HM2.out.trans (if_pos g2)
   clear g2 HM2
   obtain ⟨r3, hr3⟩ : ∃ y, y = (rr.cls (kit.bytes S) r).1 := ⟨_, rfl⟩
   obtain ⟨x3, hx3⟩ : ∃ y, y = (rr.cls (kit.bytes S) r).2 := ⟨_, rfl⟩
   have HEX : Hid (rr.cls (kit.bytes S) r = (r3, x3)) := by show _ = _; rw [hr3, hx3]
   have HV : Hid (m = (r3, x3)) := HV0.out.trans HEX.out
   have HCC := Lib.hid (fun W => rr_class S r W hS hp)
   rw [HEX.out] at HCC
   clear hr3 hx3 HEX HV0
   obtain ⟨q, hq⟩ : ∃ x, x = w.heap.size := ⟨_, rfl⟩
   have L1 := Lib.hid ((Lop.nil w).add (q := q) 48 #[.string S, .int .i64 ((r).p : Int), .int .i64 (r).co] hq)
   obtain ⟨q2, hq2⟩ : ∃ x, x = w.heap.size + 1 := ⟨_, rfl⟩
   have L2 := Lib.hid (L1.out.add (q := q2) 48 #[.string ⟨#[]⟩, .int .i64 0, .int .i64 0] (by simp only [World.size_alloc]; exact hq2))
   obtain ⟨q3, hq3⟩ : ∃ x, x = w.heap.size + 1 + 1 := ⟨_, rfl⟩
   have L3 := Lib.hid (L2.out.add (q := q3) 28 #[.int .i64 0, .int .u64 0, .int .u64 0, .int .u64 0, .int .u64 0, .slice none 0 0, .int .i64 0, .int .i64 0] (by simp only [World.size_alloc]; exact hq3))
   obtain ⟨V4, hV4, L4⟩ := L3.out.nm
   replace L4 := Lib.hid L4; replace hV4 := Lib.hid hV4
   replace hq := Lib.hid hq
   replace hq2 := Lib.hid hq2
   replace hq3 := Lib.hid hq3
   go_enter Try.func41, Try.ntmps41
   go_wp2_with fail
   rw [← hV4.out, ← hq3.out, ← hq2.out, ← hq.out]
   with_reducible refine (HCC.out _).mono ?_
   rintro e V5 ⟨c5, rfl, f5, b5⟩
   obtain ⟨ko5, kn5, kc5, rfl⟩ := rx_form f5.at
   have L5 := Lib.hid (L4.out.keep b5 f5)
   clear b5 f5
   obtain ⟨w9, h9, z2, z3, hh2, hh3, bb, ff⟩ := L5.out.two (q2 := q2) (q3 := q3) 1 2 rfl rfl (by decide) #[.string S, .int .i64 ((r3).p : Int), .int .i64 (r3).co] #[.int .i64 x3.k, .int .u64 x3.cl.a, .int .u64 x3.cl.b, .int .u64 x3.cl.c, .int .u64 x3.cl.d, .slice ko5 kn5 kc5, .int .i64 x3.mn, .int .i64 x3.mx]
   replace h9 := Lib.hid h9
   go_wp2_with (first | (refine stQ 4 rfl rfl rfl rfl z2 ?_) | (refine stT 5 rfl rfl rfl rfl z3 ?_))
   rw [← h9.out]
   clear  z2 z3
   obtain ⟨k0, k1, k2⟩ := box3 hh2
   obtain ⟨m0, m1, m2, m3, m4, m5, m6, m7⟩ := box8 hh3
   refine bodyPost_ret (v := .tuple #[.agg #[.string S, .int .i64 ((r3).p : Int), .int .i64 (r3).co], .agg #[.int .i64 x3.k, .int .u64 x3.cl.a, .int .u64 x3.cl.b, .int .u64 x3.cl.c, .int .u64 x3.cl.d, .slice ko5 kn5 kc5, .int .i64 x3.mn, .int .i64 x3.mx]]) (by simp [results, Try.results41, go_sem, k0, k1, k2, m0, m1, m2, m3, m4, m5, m6, m7]) rfl ?_
   exact RrA.of (c := [.int .i64 x3.k, .int .u64 x3.cl.a, .int .u64 x3.cl.b, .int .u64 x3.cl.c, .int .u64 x3.cl.d, .slice ko5 kn5 kc5, .int .i64 x3.mn, .int .i64 x3.mx]) HV.out (fre_le (by omega) ff) bb
  ·
   have HM3 := Lib.hid (HM2.out.trans (if_neg g2))
   have j2 : ((z : Int) == 91) = false := beq_eq_false_iff_ne.2 (by omega)
   clear HM2 g2
   by_cases g3 : z = 46
   ·
    have j3 : ((z : Int) == 46) = true := by rw [g3]; rfl
    have HV : Hid (m = (r1, .mk 2 (oth .zero) [] 0 0)) := HM3.out.trans (if_pos g3)
    clear g3 HM3
    have HTU : Hid (∀ W : World, Calls Try.prog 52 #[.agg #[.int .u64 0, .int .u64 0, .int .u64 0, .int .u64 0]] W (fun e w' => e = .returned (.agg #[.int .u64 (oth .zero).a, .int .u64 (oth .zero).b, .int .u64 (oth .zero).c, .int .u64 (oth .zero).d]) ∧ Below W.heap.size W w')) := fun W => rr_turned .zero W zero_ok
    have ii1 : (r.p : Int) + 1 = (r1.p : Int) := by have := P1.out; omega
    have iw1 : IntKind.i64.wrap (r1.p : Int) = (r1.p : Int) := IntWalk.i64_in _ (by omega)
    have co1 : r.co = r1.co := by rw [R1.out]; rfl
    obtain ⟨q, hq⟩ : ∃ x, x = w.heap.size := ⟨_, rfl⟩
    have L1 := Lib.hid ((Lop.nil w).add (q := q) 48 #[.string S, .int .i64 ((r1).p : Int), .int .i64 (r1).co] hq)
    obtain ⟨q2, hq2⟩ : ∃ x, x = w.heap.size + 1 := ⟨_, rfl⟩
    have L2 := Lib.hid (L1.out.add (q := q2) 48 #[.string ⟨#[]⟩, .int .i64 0, .int .i64 0] (by simp only [World.size_alloc]; exact hq2))
    obtain ⟨q3, hq3⟩ : ∃ x, x = w.heap.size + 1 + 1 := ⟨_, rfl⟩
    have L3 := Lib.hid (L2.out.add (q := q3) 28 #[.int .i64 0, .int .u64 0, .int .u64 0, .int .u64 0, .int .u64 0, .slice none 0 0, .int .i64 0, .int .i64 0] (by simp only [World.size_alloc]; exact hq3))
    obtain ⟨V4, hV4, L4⟩ := L3.out.nm
    replace L4 := Lib.hid L4; replace hV4 := Lib.hid hV4
    replace hq := Lib.hid hq
    replace hq2 := Lib.hid hq2
    replace hq3 := Lib.hid hq3
    go_enter Try.func41, Try.ntmps41
    go_wp2_with fail
    rw [← hV4.out, ← hq3.out, ← hq2.out, ← hq.out]
    clear ii1 iw1 co1
    have N32 := Lib.hid (L4.out.nq (p := q3) (q := q2) 2 1 rfl rfl (by decide))
    have Y2 := Lib.hid (L4.out.at (q := q) 0 rfl)
    have A2 := Lib.hid (L4.out.nq (p := q) (q := q2) 0 1 rfl rfl (by decide))
    have B2 := Lib.hid (L4.out.nq (p := q) (q := q3) 0 2 rfl rfl (by decide))
    refine wp_flow 6 (fun _ => 1000) (Dr q2 q3 48 28 3 8 _) (Ts 4 5 q2 q3 48 28 #[.string S, .int .i64 ((r1).p : Int), .int .i64 (r1).co] #[.int .i64 2, .int .u64 (oth .zero).a, .int .u64 (oth .zero).b, .int .u64 (oth .zero).c, .int .u64 (oth .zero).d, .slice none 0 0, .int .i64 0, .int .i64 0]) (fun kF vF wF => match kF with | 0 => (vF = .agg #[.string S, .int .i64 ((r1).p : Int), .int .i64 (r1).co]) | 1 => (vF = .agg #[.int .u64 0, .int .u64 0, .int .u64 0, .int .u64 0]) | 2 => (vF = .agg #[.int .u64 (oth .zero).a, .int .u64 (oth .zero).b, .int .u64 (oth .zero).c, .int .u64 (oth .zero).d]) | 3 => (vF = .agg #[.int .i64 2, .int .u64 (oth .zero).a, .int .u64 (oth .zero).b, .int .u64 (oth .zero).c, .int .u64 (oth .zero).d, .slice none 0 0, .int .i64 0, .int .i64 0]) | 4 => (wF.heap[q2]? = some (.cells #[.string S, .int .i64 ((r1).p : Int), .int .i64 (r1).co] 48 (0, 0))) | 5 => (wF.heap[q3]? = some (.cells #[.int .i64 2, .int .u64 (oth .zero).a, .int .u64 (oth .zero).b, .int .u64 (oth .zero).c, .int .u64 (oth .zero).d, .slice none 0 0, .int .i64 0, .int .i64 0] 28 (0, 0))) | _ => True) (fun _ _ _ _ => True) (by kernel_rfl) (by kernel_rfl) ((Dr.refl (L4.out.at (q := q2) 1 rfl) (L4.out.at (q := q3) 2 rfl) rfl rfl).below (Below.refl _ _).drew) (fun _ _ _ hR hT => Dr.ts N32.out rfl rfl hR hT) ?_ ?_ ?_
    ·
     intro kF hkF iF hiF hne hdd hanc hdan vF wF1 wF2 h hT
     rcases (by omega : kF = 0 ∨ kF = 1 ∨ kF = 2 ∨ kF = 3 ∨ kF = 4 ∨ kF = 5) with rfl | rfl | rfl | rfl | rfl | rfl
     all_goals first | exact h | exact Ts.keep2 N32.out hne h hT | exact Ts.keep3 N32.out hne h hT
    ·
     generalize hAF : fillOf _ _ _ = AF
     replace hAF := fun x => congrFun hAF x
     simp only [List.take_succ_cons, List.take_zero, fillOf, Act.put, List.setIfInBounds_toArray, List.set_cons_zero, List.set_cons_succ, Nat.reduceAdd, Nat.zero_add] at hAF
     refine FlowAll.cons ?_ (FlowAll.cons ?_ (FlowAll.cons ?_ (FlowAll.cons ?_ (FlowAll.cons ?_ (FlowAll.cons ?_ FlowAll.nil)))))
     all_goals
      intro xF wz hR hd K hK
      simp only [← hAF, Act.put, List.setIfInBounds_toArray, List.set_cons_zero, List.set_cons_succ] at hK ⊢
      clear hAF
      try simp only [Nat.zero_add] at hK ⊢
      try simp only [Nat.reduceAdd] at hK ⊢
     ·
      clear hd
      obtain ⟨c0, c1, c2⟩ := box3 ((hR.2.2.1 _ (lt_of_block Y2.out) A2.out B2.out).trans Y2.out)
      rw [if_pos (by rfl)]
      go_simp
      exact hK.out _ _ (Ts.no (by decide) (by decide) (Below.refl _ _)) rfl (fun _ _ _ => ⟨trivial, trivial⟩)
     ·
      clear hd
      rw [if_pos (by rfl)]
      go_simp
      exact hK.out _ _ (Ts.no (by decide) (by decide) (Below.refl _ _)) rfl (fun _ _ _ => ⟨trivial, trivial⟩)
     ·
      have dd1 : ((xF 1) = .agg #[.int .u64 0, .int .u64 0, .int .u64 0, .int .u64 0]) := hd 1 (by kernel_rfl)
      clear hd
      generalize xF 1 = yy1 at *
      obtain rfl := dd1
      rw [if_pos (by rfl)]
      go_simp
      (go_at_call 52; (with_reducible refine (HTU.out _).mono ?_); rintro e wK ⟨rfl, hbK⟩)
      try go_wp2_with fail
      exact hK.out _ _ (Ts.no (by decide) (by decide) (hbK)) rfl (fun _ _ _ => ⟨trivial, trivial⟩)
     ·
      have dd2 : ((xF 2) = .agg #[.int .u64 (oth .zero).a, .int .u64 (oth .zero).b, .int .u64 (oth .zero).c, .int .u64 (oth .zero).d]) := hd 2 (by kernel_rfl)
      clear hd
      generalize xF 2 = yy2 at *
      obtain rfl := dd2
      rw [if_pos (by rfl)]
      go_simp
      exact hK.out _ _ (Ts.no (by decide) (by decide) (Below.refl _ _)) rfl (fun _ _ _ => ⟨trivial, trivial⟩)
     ·
      have dd0 : ((xF 0) = .agg #[.string S, .int .i64 ((r1).p : Int), .int .i64 (r1).co]) := hd 0 (by kernel_rfl)
      clear hd
      generalize xF 0 = yy0 at *
      obtain rfl := dd0
      obtain ⟨csO, hcO, hzO⟩ := hR.2.2.2.1
      rw [if_pos (by rfl)]
      refine wp_store_row 48 (.tmp 4) (.tmp 76) rfl q2 #[.string S, .int .i64 ((r1).p : Int), .int .i64 (r1).co] rfl rfl 48 csO hzO rdsize hcO (by simp [Value.oneCell']) ?_
      exact hK.out undef _ (Ts.is2 (by decide) KX.row (setRow_heap _ _ _ _ _ _ hzO)) (setRow_heap _ _ _ _ _ _ hzO) (fun _ _ _ => ⟨trivial, trivial⟩)
     ·
      have dd3 : ((xF 3) = .agg #[.int .i64 2, .int .u64 (oth .zero).a, .int .u64 (oth .zero).b, .int .u64 (oth .zero).c, .int .u64 (oth .zero).d, .slice none 0 0, .int .i64 0, .int .i64 0]) := hd 3 (by kernel_rfl)
      clear hd
      generalize xF 3 = yy3 at *
      obtain rfl := dd3
      obtain ⟨csO, hcO, hzO⟩ := hR.2.2.2.2
      rw [if_pos (by rfl)]
      refine wp_store_row 28 (.tmp 5) (.tmp 79) rfl q3 #[.int .i64 2, .int .u64 (oth .zero).a, .int .u64 (oth .zero).b, .int .u64 (oth .zero).c, .int .u64 (oth .zero).d, .slice none 0 0, .int .i64 0, .int .i64 0] rfl rfl 28 csO hzO rsize hcO (by simp [Value.oneCell']) ?_
      exact hK.out undef _ (Ts.is3 KX.row (setRow_heap _ _ _ _ _ _ hzO)) (setRow_heap _ _ _ _ _ _ hzO) (fun _ _ _ => ⟨trivial, trivial⟩)
    intro xF wz hR hF hP
    have hh2 : wz.heap[q2]? = some (.cells #[.string S, .int .i64 ((r1).p : Int), .int .i64 (r1).co] 48 (0, 0)) := hF 4 (by omega) (by decide)
    have hh3 : wz.heap[q3]? = some (.cells #[.int .i64 2, .int .u64 (oth .zero).a, .int .u64 (oth .zero).b, .int .u64 (oth .zero).c, .int .u64 (oth .zero).d, .slice none 0 0, .int .i64 0, .int .i64 0] 28 (0, 0)) := hF 5 (by omega) (by decide)
    obtain ⟨bb, ff⟩ := L4.out.drend (q2 := q2) (q3 := q3) 1 2 rfl rfl (by decide) hR hh2 hh3
    clear hP hF hR
    simp only [List.take_succ_cons, List.take_zero, List.drop_succ_cons, List.drop_zero, fillOf, Act.put, List.setIfInBounds_toArray, List.set_cons_zero, List.set_cons_succ, Nat.reduceAdd, Nat.zero_add]
    try generalize xF 0 = yy0
    try generalize xF 1 = yy1
    try generalize xF 2 = yy2
    try generalize xF 3 = yy3
    try generalize xF 4 = yy4
    try generalize xF 5 = yy5
    clear xF
    obtain ⟨k0, k1, k2⟩ := box3 hh2
    obtain ⟨m0, m1, m2, m3, m4, m5, m6, m7⟩ := box8 hh3
    go_wp2_with fail
    refine bodyPost_ret (v := .tuple #[.agg #[.string S, .int .i64 ((r1).p : Int), .int .i64 (r1).co], .agg #[.int .i64 2, .int .u64 (oth .zero).a, .int .u64 (oth .zero).b, .int .u64 (oth .zero).c, .int .u64 (oth .zero).d, .slice none 0 0, .int .i64 0, .int .i64 0]]) (by simp [results, Try.results41, go_sem, k0, k1, k2, m0, m1, m2, m3, m4, m5, m6, m7]) rfl ?_
    exact RrA.leaf (k := 2) (cl := oth .zero) HV.out bb
   ·
    have HM4 := Lib.hid (HM3.out.trans (if_neg g3))
    have j3 : ((z : Int) == 46) = false := beq_eq_false_iff_ne.2 (by omega)
    clear HM3 g3
    by_cases g4 : z = 92
    ·
     have j4 : ((z : Int) == 92) = true := by rw [g4]; rfl
     have HV0 : Hid (m = ((rr.escape (kit.bytes S) r).1, Pat.ofCls (rr.escape (kit.bytes S) r).2.1)) := HM4.out.trans (if_pos g4)
     clear g4 HM4
     have HES : Hid (∀ W : World, Calls Try.prog 53 #[.agg #[.string S, .int .i64 ((r).p : Int), .int .i64 (r).co]] W (fun e w' => e = .returned (.tuple #[.agg #[.string S, .int .i64 (((rr.escape (kit.bytes S) r).1).p : Int), .int .i64 ((rr.escape (kit.bytes S) r).1).co], .agg #[.int .u64 (rr.escape (kit.bytes S) r).2.1.a, .int .u64 (rr.escape (kit.bytes S) r).2.1.b, .int .u64 (rr.escape (kit.bytes S) r).2.1.c, .int .u64 (rr.escape (kit.bytes S) r).2.1.d], .int .u8 (rr.escape (kit.bytes S) r).2.2.1, .bool (rr.escape (kit.bytes S) r).2.2.2]) ∧ Below W.heap.size W w')) := fun W => rr_escape S r W hS hp
     obtain ⟨r3, hr3⟩ : ∃ y, y = (rr.escape (kit.bytes S) r).1 := ⟨_, rfl⟩
     obtain ⟨k3, hk3⟩ : ∃ y, y = (rr.escape (kit.bytes S) r).2.1 := ⟨_, rfl⟩
     obtain ⟨v3, hv3⟩ : ∃ y, y = (rr.escape (kit.bytes S) r).2.2.1 := ⟨_, rfl⟩
     obtain ⟨b3, hb3⟩ : ∃ y, y = (rr.escape (kit.bytes S) r).2.2.2 := ⟨_, rfl⟩
     rw [← hr3, ← hk3, ← hv3, ← hb3] at HES
     rw [← hr3, ← hk3] at HV0
     have HV : Hid (m = (r3, .mk 2 k3 [] 0 0)) := HV0.out
     clear hr3 hk3 hv3 hb3 HV0
     obtain ⟨q, hq⟩ : ∃ x, x = w.heap.size := ⟨_, rfl⟩
     have L1 := Lib.hid ((Lop.nil w).add (q := q) 48 #[.string S, .int .i64 ((r).p : Int), .int .i64 (r).co] hq)
     obtain ⟨q2, hq2⟩ : ∃ x, x = w.heap.size + 1 := ⟨_, rfl⟩
     have L2 := Lib.hid (L1.out.add (q := q2) 48 #[.string ⟨#[]⟩, .int .i64 0, .int .i64 0] (by simp only [World.size_alloc]; exact hq2))
     obtain ⟨q3, hq3⟩ : ∃ x, x = w.heap.size + 1 + 1 := ⟨_, rfl⟩
     have L3 := Lib.hid (L2.out.add (q := q3) 28 #[.int .i64 0, .int .u64 0, .int .u64 0, .int .u64 0, .int .u64 0, .slice none 0 0, .int .i64 0, .int .i64 0] (by simp only [World.size_alloc]; exact hq3))
     obtain ⟨V4, hV4, L4⟩ := L3.out.nm
     replace L4 := Lib.hid L4; replace hV4 := Lib.hid hV4
     replace hq := Lib.hid hq
     replace hq2 := Lib.hid hq2
     replace hq3 := Lib.hid hq3
     go_enter Try.func41, Try.ntmps41
     go_wp2_with fail
     rw [← hV4.out, ← hq3.out, ← hq2.out, ← hq.out]
     with_reducible refine (HES.out _).mono ?_
     rintro e V5 ⟨rfl, b5⟩
     have L5 := Lib.hid (L4.out.call b5)
     clear b5
     obtain ⟨q10, hq10⟩ : ∃ x, x = V5.heap.size := ⟨_, rfl⟩
     have L6 := Lib.hid (L5.out.add (q := q10) 48 #[.string S, .int .i64 ((r3).p : Int), .int .i64 (r3).co] hq10)
     obtain ⟨q11, hq11⟩ : ∃ x, x = V5.heap.size + 1 := ⟨_, rfl⟩
     have L7 := Lib.hid (L6.out.add (q := q11) 25 #[.int .u64 k3.a, .int .u64 k3.b, .int .u64 k3.c, .int .u64 k3.d] (by simp only [World.size_alloc]; exact hq11))
     obtain ⟨V8, hV8, L8⟩ := L7.out.nm
     replace L8 := Lib.hid L8; replace hV8 := Lib.hid hV8
     replace hq10 := Lib.hid hq10
     replace hq11 := Lib.hid hq11
     go_wp2_with fail
     rw [← hV8.out, ← hq11.out, ← hq10.out]
     have N32 := Lib.hid (L8.out.nq (p := q3) (q := q2) 2 1 rfl rfl (by decide))
     have Y10 := Lib.hid (L8.out.at (q := q10) 3 rfl)
     have A10 := Lib.hid (L8.out.nq (p := q10) (q := q2) 3 1 rfl rfl (by decide))
     have B10 := Lib.hid (L8.out.nq (p := q10) (q := q3) 3 2 rfl rfl (by decide))
     have Y11 := Lib.hid (L8.out.at (q := q11) 4 rfl)
     have A11 := Lib.hid (L8.out.nq (p := q11) (q := q2) 4 1 rfl rfl (by decide))
     have B11 := Lib.hid (L8.out.nq (p := q11) (q := q3) 4 2 rfl rfl (by decide))
     refine wp_flow 5 (fun _ => 1000) (Dr q2 q3 48 28 3 8 _) (Ts 3 4 q2 q3 48 28 #[.string S, .int .i64 ((r3).p : Int), .int .i64 (r3).co] #[.int .i64 2, .int .u64 k3.a, .int .u64 k3.b, .int .u64 k3.c, .int .u64 k3.d, .slice none 0 0, .int .i64 0, .int .i64 0]) (fun kF vF wF => match kF with | 0 => (vF = .agg #[.string S, .int .i64 ((r3).p : Int), .int .i64 (r3).co]) | 1 => (vF = .agg #[.int .u64 k3.a, .int .u64 k3.b, .int .u64 k3.c, .int .u64 k3.d]) | 2 => (vF = .agg #[.int .i64 2, .int .u64 k3.a, .int .u64 k3.b, .int .u64 k3.c, .int .u64 k3.d, .slice none 0 0, .int .i64 0, .int .i64 0]) | 3 => (wF.heap[q2]? = some (.cells #[.string S, .int .i64 ((r3).p : Int), .int .i64 (r3).co] 48 (0, 0))) | 4 => (wF.heap[q3]? = some (.cells #[.int .i64 2, .int .u64 k3.a, .int .u64 k3.b, .int .u64 k3.c, .int .u64 k3.d, .slice none 0 0, .int .i64 0, .int .i64 0] 28 (0, 0))) | _ => True) (fun _ _ _ _ => True) (by kernel_rfl) (by kernel_rfl) ((Dr.refl (L8.out.at (q := q2) 1 rfl) (L8.out.at (q := q3) 2 rfl) rfl rfl).below (Below.refl _ _).drew) (fun _ _ _ hR hT => Dr.ts N32.out rfl rfl hR hT) ?_ ?_ ?_
     ·
      intro kF hkF iF hiF hne hdd hanc hdan vF wF1 wF2 h hT
      rcases (by omega : kF = 0 ∨ kF = 1 ∨ kF = 2 ∨ kF = 3 ∨ kF = 4) with rfl | rfl | rfl | rfl | rfl
      all_goals first | exact h | exact Ts.keep2 N32.out hne h hT | exact Ts.keep3 N32.out hne h hT
     ·
      generalize hAF : fillOf _ _ _ = AF
      replace hAF := fun x => congrFun hAF x
      simp only [List.take_succ_cons, List.take_zero, fillOf, Act.put, List.setIfInBounds_toArray, List.set_cons_zero, List.set_cons_succ, Nat.reduceAdd, Nat.zero_add] at hAF
      refine FlowAll.cons ?_ (FlowAll.cons ?_ (FlowAll.cons ?_ (FlowAll.cons ?_ (FlowAll.cons ?_ FlowAll.nil))))
      all_goals
       intro xF wz hR hd K hK
       simp only [← hAF, Act.put, List.setIfInBounds_toArray, List.set_cons_zero, List.set_cons_succ] at hK ⊢
       clear hAF
       try simp only [Nat.zero_add] at hK ⊢
       try simp only [Nat.reduceAdd] at hK ⊢
      ·
       clear hd
       obtain ⟨c0, c1, c2⟩ := box3 ((hR.2.2.1 _ (lt_of_block Y10.out) A10.out B10.out).trans Y10.out)
       rw [if_pos (by rfl)]
       go_simp
       exact hK.out _ _ (Ts.no (by decide) (by decide) (Below.refl _ _)) rfl (fun _ _ _ => ⟨trivial, trivial⟩)
      ·
       clear hd
       obtain ⟨c0, c1, c2, c3⟩ := box4 ((hR.2.2.1 _ (lt_of_block Y11.out) A11.out B11.out).trans Y11.out)
       rw [if_pos (by rfl)]
       go_simp
       exact hK.out _ _ (Ts.no (by decide) (by decide) (Below.refl _ _)) rfl (fun _ _ _ => ⟨trivial, trivial⟩)
      ·
       have dd1 : ((xF 1) = .agg #[.int .u64 k3.a, .int .u64 k3.b, .int .u64 k3.c, .int .u64 k3.d]) := hd 1 (by kernel_rfl)
       clear hd
       generalize xF 1 = yy1 at *
       obtain rfl := dd1
       rw [if_pos (by rfl)]
       go_simp
       exact hK.out _ _ (Ts.no (by decide) (by decide) (Below.refl _ _)) rfl (fun _ _ _ => ⟨trivial, trivial⟩)
      ·
       have dd0 : ((xF 0) = .agg #[.string S, .int .i64 ((r3).p : Int), .int .i64 (r3).co]) := hd 0 (by kernel_rfl)
       clear hd
       generalize xF 0 = yy0 at *
       obtain rfl := dd0
       obtain ⟨csO, hcO, hzO⟩ := hR.2.2.2.1
       rw [if_pos (by rfl)]
       refine wp_store_row 48 (.tmp 4) (.tmp 90) rfl q2 #[.string S, .int .i64 ((r3).p : Int), .int .i64 (r3).co] rfl rfl 48 csO hzO rdsize hcO (by simp [Value.oneCell']) ?_
       exact hK.out undef _ (Ts.is2 (by decide) KX.row (setRow_heap _ _ _ _ _ _ hzO)) (setRow_heap _ _ _ _ _ _ hzO) (fun _ _ _ => ⟨trivial, trivial⟩)
      ·
       have dd2 : ((xF 2) = .agg #[.int .i64 2, .int .u64 k3.a, .int .u64 k3.b, .int .u64 k3.c, .int .u64 k3.d, .slice none 0 0, .int .i64 0, .int .i64 0]) := hd 2 (by kernel_rfl)
       clear hd
       generalize xF 2 = yy2 at *
       obtain rfl := dd2
       obtain ⟨csO, hcO, hzO⟩ := hR.2.2.2.2
       rw [if_pos (by rfl)]
       refine wp_store_row 28 (.tmp 5) (.tmp 92) rfl q3 #[.int .i64 2, .int .u64 k3.a, .int .u64 k3.b, .int .u64 k3.c, .int .u64 k3.d, .slice none 0 0, .int .i64 0, .int .i64 0] rfl rfl 28 csO hzO rsize hcO (by simp [Value.oneCell']) ?_
       exact hK.out undef _ (Ts.is3 KX.row (setRow_heap _ _ _ _ _ _ hzO)) (setRow_heap _ _ _ _ _ _ hzO) (fun _ _ _ => ⟨trivial, trivial⟩)
     intro xF wz hR hF hP
     have hh2 : wz.heap[q2]? = some (.cells #[.string S, .int .i64 ((r3).p : Int), .int .i64 (r3).co] 48 (0, 0)) := hF 3 (by omega) (by decide)
     have hh3 : wz.heap[q3]? = some (.cells #[.int .i64 2, .int .u64 k3.a, .int .u64 k3.b, .int .u64 k3.c, .int .u64 k3.d, .slice none 0 0, .int .i64 0, .int .i64 0] 28 (0, 0)) := hF 4 (by omega) (by decide)
     obtain ⟨bb, ff⟩ := L8.out.drend (q2 := q2) (q3 := q3) 1 2 rfl rfl (by decide) hR hh2 hh3
     clear hP hF hR
     simp only [List.take_succ_cons, List.take_zero, List.drop_succ_cons, List.drop_zero, fillOf, Act.put, List.setIfInBounds_toArray, List.set_cons_zero, List.set_cons_succ, Nat.reduceAdd, Nat.zero_add]
     try generalize xF 0 = yy0
     try generalize xF 1 = yy1
     try generalize xF 2 = yy2
     try generalize xF 3 = yy3
     try generalize xF 4 = yy4
     clear xF
     obtain ⟨k0, k1, k2⟩ := box3 hh2
     obtain ⟨m0, m1, m2, m3, m4, m5, m6, m7⟩ := box8 hh3
     go_wp2_with fail
     refine bodyPost_ret (v := .tuple #[.agg #[.string S, .int .i64 ((r3).p : Int), .int .i64 (r3).co], .agg #[.int .i64 2, .int .u64 k3.a, .int .u64 k3.b, .int .u64 k3.c, .int .u64 k3.d, .slice none 0 0, .int .i64 0, .int .i64 0]]) (by simp [results, Try.results41, go_sem, k0, k1, k2, m0, m1, m2, m3, m4, m5, m6, m7]) rfl ?_
     exact RrA.leaf (k := 2) (cl := k3) HV.out bb
    ·
     have HM5 := Lib.hid (HM4.out.trans (if_neg g4))
     have j4 : ((z : Int) == 92) = false := beq_eq_false_iff_ne.2 (by omega)
     clear HM4 g4
     by_cases gs : spc z = true
     ·
      by_cases g5 : z = 45
      ·
       have HSP : Hid (∀ W : World, Calls Try.prog 54 #[.int .u8 (z : Int)] W (fun e w' => e = .returned (.bool true) ∧ w' = W)) := fun W => by have h := rr_special z W; rw [gs] at h; exact h
       have j5 : ((z : Int) != 45) = false := by simp; omega
       have j6 : ¬ (z : Int) < 32 := by omega
       have j7 : ¬ (126 : Int) < (z : Int) := by omega
       have HV : Hid (m = (r1, .mk 2 (.one z) [] 0 0)) := HM5.out.trans (if_neg (by omega))
       clear HM5 gs g5
       have HSG : Hid (∀ W : World, Calls Try.prog 55 #[.int .u8 (z : Int)] W (fun e w' => e = .returned (.agg #[.int .u64 (Cls.one z).a, .int .u64 (Cls.one z).b, .int .u64 (Cls.one z).c, .int .u64 (Cls.one z).d]) ∧ Below W.heap.size W w')) := fun W => rr_single z W hz8
       obtain ⟨q, hq⟩ : ∃ x, x = w.heap.size := ⟨_, rfl⟩
       have L1 := Lib.hid ((Lop.nil w).add (q := q) 48 #[.string S, .int .i64 ((r).p : Int), .int .i64 (r).co] hq)
       obtain ⟨q2, hq2⟩ : ∃ x, x = w.heap.size + 1 := ⟨_, rfl⟩
       have L2 := Lib.hid (L1.out.add (q := q2) 48 #[.string ⟨#[]⟩, .int .i64 0, .int .i64 0] (by simp only [World.size_alloc]; exact hq2))
       obtain ⟨q3, hq3⟩ : ∃ x, x = w.heap.size + 1 + 1 := ⟨_, rfl⟩
       have L3 := Lib.hid (L2.out.add (q := q3) 28 #[.int .i64 0, .int .u64 0, .int .u64 0, .int .u64 0, .int .u64 0, .slice none 0 0, .int .i64 0, .int .i64 0] (by simp only [World.size_alloc]; exact hq3))
       obtain ⟨V4, hV4, L4⟩ := L3.out.nm
       replace L4 := Lib.hid L4; replace hV4 := Lib.hid hV4
       replace hq := Lib.hid hq
       replace hq2 := Lib.hid hq2
       replace hq3 := Lib.hid hq3
       go_enter Try.func41, Try.ntmps41
       go_wp2_with fail
       rw [← hV4.out, ← hq3.out, ← hq2.out, ← hq.out]
       with_reducible refine (HSP.out _).mono ?_
       rintro e V9 ⟨rfl, rfl⟩
       have y5 := L4.out.at (q := q) 0 rfl
       have e5_1 := boxc y5 1 _ rfl
       have f5_1 := boxf y5 1
       have ip6 : (r.p : Int) + 1 = (r1.p : Int) := by rw [R1.out]; rfl
       have iw6 : IntKind.i64.wrap (r1.p : Int) = (r1.p : Int) := IntWalk.i64_in _ (by omega)
       have iv6 : IntKind.i64.wrap ((r.p : Int) + 1) = (r1.p : Int) := by rw [ip6]; exact iw6
       have L6 := Lib.hid (L4.out.cell (q := q) 0 rfl 1 (.int .i64 (r1.p : Int)) #[.string S, .int .i64 ((r1).p : Int), .int .i64 (r1).co] (by rw [R1.out]; rfl))
       go_wp2_with fail
       clear y5 e5_1 f5_1 ip6 iw6 iv6
       obtain ⟨V7, hV7, L7⟩ := L6.out.nm
       replace L7 := Lib.hid L7; replace hV7 := Lib.hid hV7
       rw [← hV7.out]
       have N32 := Lib.hid (L7.out.nq (p := q3) (q := q2) 2 1 rfl rfl (by decide))
       have Y2 := Lib.hid (L7.out.at (q := q) 0 rfl)
       have A2 := Lib.hid (L7.out.nq (p := q) (q := q2) 0 1 rfl rfl (by decide))
       have B2 := Lib.hid (L7.out.nq (p := q) (q := q3) 0 2 rfl rfl (by decide))
       refine wp_flow 6 (fun _ => 1000) (Dr q2 q3 48 28 3 8 _) (Ts 4 5 q2 q3 48 28 #[.string S, .int .i64 ((r1).p : Int), .int .i64 (r1).co] #[.int .i64 2, .int .u64 (Cls.one z).a, .int .u64 (Cls.one z).b, .int .u64 (Cls.one z).c, .int .u64 (Cls.one z).d, .slice none 0 0, .int .i64 0, .int .i64 0]) (fun kF vF wF => match kF with | 0 => (vF = .agg #[.string S, .int .i64 ((r1).p : Int), .int .i64 (r1).co]) | 1 => (vF = .int .u8 (z : Int)) | 2 => (vF = .agg #[.int .u64 (Cls.one z).a, .int .u64 (Cls.one z).b, .int .u64 (Cls.one z).c, .int .u64 (Cls.one z).d]) | 3 => (vF = .agg #[.int .i64 2, .int .u64 (Cls.one z).a, .int .u64 (Cls.one z).b, .int .u64 (Cls.one z).c, .int .u64 (Cls.one z).d, .slice none 0 0, .int .i64 0, .int .i64 0]) | 4 => (wF.heap[q2]? = some (.cells #[.string S, .int .i64 ((r1).p : Int), .int .i64 (r1).co] 48 (0, 0))) | 5 => (wF.heap[q3]? = some (.cells #[.int .i64 2, .int .u64 (Cls.one z).a, .int .u64 (Cls.one z).b, .int .u64 (Cls.one z).c, .int .u64 (Cls.one z).d, .slice none 0 0, .int .i64 0, .int .i64 0] 28 (0, 0))) | _ => True) (fun _ _ _ _ => True) (by kernel_rfl) (by kernel_rfl) ((Dr.refl (L7.out.at (q := q2) 1 rfl) (L7.out.at (q := q3) 2 rfl) rfl rfl).below (Below.refl _ _).drew) (fun _ _ _ hR hT => Dr.ts N32.out rfl rfl hR hT) ?_ ?_ ?_
       ·
        intro kF hkF iF hiF hne hdd hanc hdan vF wF1 wF2 h hT
        rcases (by omega : kF = 0 ∨ kF = 1 ∨ kF = 2 ∨ kF = 3 ∨ kF = 4 ∨ kF = 5) with rfl | rfl | rfl | rfl | rfl | rfl
        all_goals first | exact h | exact Ts.keep2 N32.out hne h hT | exact Ts.keep3 N32.out hne h hT
       ·
        generalize hAF : fillOf _ _ _ = AF
        replace hAF := fun x => congrFun hAF x
        simp only [List.take_succ_cons, List.take_zero, fillOf, Act.put, List.setIfInBounds_toArray, List.set_cons_zero, List.set_cons_succ, Nat.reduceAdd, Nat.zero_add] at hAF
        refine FlowAll.cons ?_ (FlowAll.cons ?_ (FlowAll.cons ?_ (FlowAll.cons ?_ (FlowAll.cons ?_ (FlowAll.cons ?_ FlowAll.nil)))))
        all_goals
         intro xF wz hR hd K hK
         simp only [← hAF, Act.put, List.setIfInBounds_toArray, List.set_cons_zero, List.set_cons_succ] at hK ⊢
         clear hAF
         try simp only [Nat.zero_add] at hK ⊢
         try simp only [Nat.reduceAdd] at hK ⊢
        ·
         clear hd
         obtain ⟨c0, c1, c2⟩ := box3 ((hR.2.2.1 _ (lt_of_block Y2.out) A2.out B2.out).trans Y2.out)
         rw [if_pos (by rfl)]
         go_simp
         exact hK.out _ _ (Ts.no (by decide) (by decide) (Below.refl _ _)) rfl (fun _ _ _ => ⟨trivial, trivial⟩)
        ·
         clear hd
         rw [if_pos (by rfl)]
         go_simp
         exact hK.out _ _ (Ts.no (by decide) (by decide) (Below.refl _ _)) rfl (fun _ _ _ => ⟨trivial, trivial⟩)
        ·
         have dd1 : ((xF 1) = .int .u8 (z : Int)) := hd 1 (by kernel_rfl)
         clear hd
         generalize xF 1 = yy1 at *
         obtain rfl := dd1
         rw [if_pos (by rfl)]
         go_simp
         (go_at_call 55; (with_reducible refine (HSG.out _).mono ?_); rintro e wK ⟨rfl, hbK⟩)
         try go_wp2_with fail
         exact hK.out _ _ (Ts.no (by decide) (by decide) (hbK)) rfl (fun _ _ _ => ⟨trivial, trivial⟩)
        ·
         have dd2 : ((xF 2) = .agg #[.int .u64 (Cls.one z).a, .int .u64 (Cls.one z).b, .int .u64 (Cls.one z).c, .int .u64 (Cls.one z).d]) := hd 2 (by kernel_rfl)
         clear hd
         generalize xF 2 = yy2 at *
         obtain rfl := dd2
         rw [if_pos (by rfl)]
         go_simp
         exact hK.out _ _ (Ts.no (by decide) (by decide) (Below.refl _ _)) rfl (fun _ _ _ => ⟨trivial, trivial⟩)
        ·
         have dd0 : ((xF 0) = .agg #[.string S, .int .i64 ((r1).p : Int), .int .i64 (r1).co]) := hd 0 (by kernel_rfl)
         clear hd
         generalize xF 0 = yy0 at *
         obtain rfl := dd0
         obtain ⟨csO, hcO, hzO⟩ := hR.2.2.2.1
         rw [if_pos (by rfl)]
         refine wp_store_row 48 (.tmp 4) (.tmp 117) rfl q2 #[.string S, .int .i64 ((r1).p : Int), .int .i64 (r1).co] rfl rfl 48 csO hzO rdsize hcO (by simp [Value.oneCell']) ?_
         exact hK.out undef _ (Ts.is2 (by decide) KX.row (setRow_heap _ _ _ _ _ _ hzO)) (setRow_heap _ _ _ _ _ _ hzO) (fun _ _ _ => ⟨trivial, trivial⟩)
        ·
         have dd3 : ((xF 3) = .agg #[.int .i64 2, .int .u64 (Cls.one z).a, .int .u64 (Cls.one z).b, .int .u64 (Cls.one z).c, .int .u64 (Cls.one z).d, .slice none 0 0, .int .i64 0, .int .i64 0]) := hd 3 (by kernel_rfl)
         clear hd
         generalize xF 3 = yy3 at *
         obtain rfl := dd3
         obtain ⟨csO, hcO, hzO⟩ := hR.2.2.2.2
         rw [if_pos (by rfl)]
         refine wp_store_row 28 (.tmp 5) (.tmp 120) rfl q3 #[.int .i64 2, .int .u64 (Cls.one z).a, .int .u64 (Cls.one z).b, .int .u64 (Cls.one z).c, .int .u64 (Cls.one z).d, .slice none 0 0, .int .i64 0, .int .i64 0] rfl rfl 28 csO hzO rsize hcO (by simp [Value.oneCell']) ?_
         exact hK.out undef _ (Ts.is3 KX.row (setRow_heap _ _ _ _ _ _ hzO)) (setRow_heap _ _ _ _ _ _ hzO) (fun _ _ _ => ⟨trivial, trivial⟩)
       intro xF wz hR hF hP
       have hh2 : wz.heap[q2]? = some (.cells #[.string S, .int .i64 ((r1).p : Int), .int .i64 (r1).co] 48 (0, 0)) := hF 4 (by omega) (by decide)
       have hh3 : wz.heap[q3]? = some (.cells #[.int .i64 2, .int .u64 (Cls.one z).a, .int .u64 (Cls.one z).b, .int .u64 (Cls.one z).c, .int .u64 (Cls.one z).d, .slice none 0 0, .int .i64 0, .int .i64 0] 28 (0, 0)) := hF 5 (by omega) (by decide)
       obtain ⟨bb, ff⟩ := L7.out.drend (q2 := q2) (q3 := q3) 1 2 rfl rfl (by decide) hR hh2 hh3
       clear hP hF hR
       simp only [List.take_succ_cons, List.take_zero, List.drop_succ_cons, List.drop_zero, fillOf, Act.put, List.setIfInBounds_toArray, List.set_cons_zero, List.set_cons_succ, Nat.reduceAdd, Nat.zero_add]
       try generalize xF 0 = yy0
       try generalize xF 1 = yy1
       try generalize xF 2 = yy2
       try generalize xF 3 = yy3
       try generalize xF 4 = yy4
       try generalize xF 5 = yy5
       clear xF
       obtain ⟨k0, k1, k2⟩ := box3 hh2
       obtain ⟨m0, m1, m2, m3, m4, m5, m6, m7⟩ := box8 hh3
       go_wp2_with fail
       refine bodyPost_ret (v := .tuple #[.agg #[.string S, .int .i64 ((r1).p : Int), .int .i64 (r1).co], .agg #[.int .i64 2, .int .u64 (Cls.one z).a, .int .u64 (Cls.one z).b, .int .u64 (Cls.one z).c, .int .u64 (Cls.one z).d, .slice none 0 0, .int .i64 0, .int .i64 0]]) (by simp [results, Try.results41, go_sem, k0, k1, k2, m0, m1, m2, m3, m4, m5, m6, m7]) rfl ?_
       exact RrA.leaf (k := 2) (cl := .one z) HV.out bb
      ·
       have HSP : Hid (∀ W : World, Calls Try.prog 54 #[.int .u8 (z : Int)] W (fun e w' => e = .returned (.bool true) ∧ w' = W)) := fun W => by have h := rr_special z W; rw [gs] at h; exact h
       have j5 : ((z : Int) != 45) = true := by simp; omega
       have HV : Hid (m = (r.fail r.p 9, .mk 0 .zero [] 0 0)) := HM5.out.trans (if_pos (Or.inl ⟨gs, g5⟩))
       clear HM5 gs g5
       obtain ⟨q, hq⟩ : ∃ x, x = w.heap.size := ⟨_, rfl⟩
       have L1 := Lib.hid ((Lop.nil w).add (q := q) 48 #[.string S, .int .i64 ((r).p : Int), .int .i64 (r).co] hq)
       obtain ⟨q2, hq2⟩ : ∃ x, x = w.heap.size + 1 := ⟨_, rfl⟩
       have L2 := Lib.hid (L1.out.add (q := q2) 48 #[.string ⟨#[]⟩, .int .i64 0, .int .i64 0] (by simp only [World.size_alloc]; exact hq2))
       obtain ⟨q3, hq3⟩ : ∃ x, x = w.heap.size + 1 + 1 := ⟨_, rfl⟩
       have L3 := Lib.hid (L2.out.add (q := q3) 28 #[.int .i64 0, .int .u64 0, .int .u64 0, .int .u64 0, .int .u64 0, .slice none 0 0, .int .i64 0, .int .i64 0] (by simp only [World.size_alloc]; exact hq3))
       obtain ⟨V4, hV4, L4⟩ := L3.out.nm
       replace L4 := Lib.hid L4; replace hV4 := Lib.hid hV4
       replace hq := Lib.hid hq
       replace hq2 := Lib.hid hq2
       replace hq3 := Lib.hid hq3
       go_enter Try.func41, Try.ntmps41
       go_wp2_with fail
       rw [← hV4.out, ← hq3.out, ← hq2.out, ← hq.out]
       with_reducible refine (HSP.out _).mono ?_
       rintro e V9 ⟨rfl, rfl⟩
       obtain ⟨e5_0, e5_1, e5_2⟩ := box3 (L4.out.at (q := q) 0 rfl)
       go_wp2_with fail
       clear e5_0 e5_1 e5_2
       with_reducible refine (HFA.out r r.p 9 _).mono ?_
       rintro e V6 ⟨rfl, b6⟩
       have L6 := Lib.hid (L4.out.call b6)
       clear b6
       obtain ⟨w9, h9, z2, z3, hh2, hh3, bb, ff⟩ := L6.out.two (q2 := q2) (q3 := q3) 1 2 rfl rfl (by decide) #[.string S, .int .i64 (((r.fail r.p 9)).p : Int), .int .i64 ((r.fail r.p 9)).co] #[.int .i64 0, .int .u64 0, .int .u64 0, .int .u64 0, .int .u64 0, .slice none 0 0, .int .i64 0, .int .i64 0]
       replace h9 := Lib.hid h9
       go_wp2_with (first | (refine stQ 4 rfl rfl rfl rfl z2 ?_) | (refine stT 5 rfl rfl rfl rfl z3 ?_))
       rw [← h9.out]
       clear  z2 z3
       obtain ⟨k0, k1, k2⟩ := box3 hh2
       obtain ⟨m0, m1, m2, m3, m4, m5, m6, m7⟩ := box8 hh3
       refine bodyPost_ret (v := .tuple #[.agg #[.string S, .int .i64 (((r.fail r.p 9)).p : Int), .int .i64 ((r.fail r.p 9)).co], .agg #[.int .i64 0, .int .u64 0, .int .u64 0, .int .u64 0, .int .u64 0, .slice none 0 0, .int .i64 0, .int .i64 0]]) (by simp [results, Try.results41, go_sem, k0, k1, k2, m0, m1, m2, m3, m4, m5, m6, m7]) rfl ?_
       exact RrA.leaf (k := 0) (cl := .zero) HV.out bb
     ·
      replace gs : spc z = false := by cases h : spc z; rfl; exact absurd h gs
      by_cases g6 : z < 32
      ·
       have HSP : Hid (∀ W : World, Calls Try.prog 54 #[.int .u8 (z : Int)] W (fun e w' => e = .returned (.bool false) ∧ w' = W)) := fun W => by have h := rr_special z W; rw [gs] at h; exact h
       have j6 : (z : Int) < 32 := by omega
       have HV : Hid (m = (r.fail r.p 9, .mk 0 .zero [] 0 0)) := HM5.out.trans (if_pos (Or.inr (Or.inl g6)))
       clear HM5 gs g6
       obtain ⟨q, hq⟩ : ∃ x, x = w.heap.size := ⟨_, rfl⟩
       have L1 := Lib.hid ((Lop.nil w).add (q := q) 48 #[.string S, .int .i64 ((r).p : Int), .int .i64 (r).co] hq)
       obtain ⟨q2, hq2⟩ : ∃ x, x = w.heap.size + 1 := ⟨_, rfl⟩
       have L2 := Lib.hid (L1.out.add (q := q2) 48 #[.string ⟨#[]⟩, .int .i64 0, .int .i64 0] (by simp only [World.size_alloc]; exact hq2))
       obtain ⟨q3, hq3⟩ : ∃ x, x = w.heap.size + 1 + 1 := ⟨_, rfl⟩
       have L3 := Lib.hid (L2.out.add (q := q3) 28 #[.int .i64 0, .int .u64 0, .int .u64 0, .int .u64 0, .int .u64 0, .slice none 0 0, .int .i64 0, .int .i64 0] (by simp only [World.size_alloc]; exact hq3))
       obtain ⟨V4, hV4, L4⟩ := L3.out.nm
       replace L4 := Lib.hid L4; replace hV4 := Lib.hid hV4
       replace hq := Lib.hid hq
       replace hq2 := Lib.hid hq2
       replace hq3 := Lib.hid hq3
       go_enter Try.func41, Try.ntmps41
       go_wp2_with fail
       rw [← hV4.out, ← hq3.out, ← hq2.out, ← hq.out]
       with_reducible refine (HSP.out _).mono ?_
       rintro e V9 ⟨rfl, rfl⟩
       obtain ⟨e5_0, e5_1, e5_2⟩ := box3 (L4.out.at (q := q) 0 rfl)
       go_wp2_with fail
       clear e5_0 e5_1 e5_2
       with_reducible refine (HFA.out r r.p 9 _).mono ?_
       rintro e V6 ⟨rfl, b6⟩
       have L6 := Lib.hid (L4.out.call b6)
       clear b6
       obtain ⟨w9, h9, z2, z3, hh2, hh3, bb, ff⟩ := L6.out.two (q2 := q2) (q3 := q3) 1 2 rfl rfl (by decide) #[.string S, .int .i64 (((r.fail r.p 9)).p : Int), .int .i64 ((r.fail r.p 9)).co] #[.int .i64 0, .int .u64 0, .int .u64 0, .int .u64 0, .int .u64 0, .slice none 0 0, .int .i64 0, .int .i64 0]
       replace h9 := Lib.hid h9
       go_wp2_with (first | (refine stQ 4 rfl rfl rfl rfl z2 ?_) | (refine stT 5 rfl rfl rfl rfl z3 ?_))
       rw [← h9.out]
       clear  z2 z3
       obtain ⟨k0, k1, k2⟩ := box3 hh2
       obtain ⟨m0, m1, m2, m3, m4, m5, m6, m7⟩ := box8 hh3
       refine bodyPost_ret (v := .tuple #[.agg #[.string S, .int .i64 (((r.fail r.p 9)).p : Int), .int .i64 ((r.fail r.p 9)).co], .agg #[.int .i64 0, .int .u64 0, .int .u64 0, .int .u64 0, .int .u64 0, .slice none 0 0, .int .i64 0, .int .i64 0]]) (by simp [results, Try.results41, go_sem, k0, k1, k2, m0, m1, m2, m3, m4, m5, m6, m7]) rfl ?_
       exact RrA.leaf (k := 0) (cl := .zero) HV.out bb
      ·
       by_cases g7 : 126 < z
       ·
        have HSP : Hid (∀ W : World, Calls Try.prog 54 #[.int .u8 (z : Int)] W (fun e w' => e = .returned (.bool false) ∧ w' = W)) := fun W => by have h := rr_special z W; rw [gs] at h; exact h
        have j6 : ¬ (z : Int) < 32 := by omega
        have j7 : (126 : Int) < (z : Int) := by omega
        have HV : Hid (m = (r.fail r.p 9, .mk 0 .zero [] 0 0)) := HM5.out.trans (if_pos (Or.inr (Or.inr g7)))
        clear HM5 gs g6 g7
        obtain ⟨q, hq⟩ : ∃ x, x = w.heap.size := ⟨_, rfl⟩
        have L1 := Lib.hid ((Lop.nil w).add (q := q) 48 #[.string S, .int .i64 ((r).p : Int), .int .i64 (r).co] hq)
        obtain ⟨q2, hq2⟩ : ∃ x, x = w.heap.size + 1 := ⟨_, rfl⟩
        have L2 := Lib.hid (L1.out.add (q := q2) 48 #[.string ⟨#[]⟩, .int .i64 0, .int .i64 0] (by simp only [World.size_alloc]; exact hq2))
        obtain ⟨q3, hq3⟩ : ∃ x, x = w.heap.size + 1 + 1 := ⟨_, rfl⟩
        have L3 := Lib.hid (L2.out.add (q := q3) 28 #[.int .i64 0, .int .u64 0, .int .u64 0, .int .u64 0, .int .u64 0, .slice none 0 0, .int .i64 0, .int .i64 0] (by simp only [World.size_alloc]; exact hq3))
        obtain ⟨V4, hV4, L4⟩ := L3.out.nm
        replace L4 := Lib.hid L4; replace hV4 := Lib.hid hV4
        replace hq := Lib.hid hq
        replace hq2 := Lib.hid hq2
        replace hq3 := Lib.hid hq3
        go_enter Try.func41, Try.ntmps41
        go_wp2_with fail
        rw [← hV4.out, ← hq3.out, ← hq2.out, ← hq.out]
        with_reducible refine (HSP.out _).mono ?_
        rintro e V9 ⟨rfl, rfl⟩
        obtain ⟨e5_0, e5_1, e5_2⟩ := box3 (L4.out.at (q := q) 0 rfl)
        go_wp2_with fail
        clear e5_0 e5_1 e5_2
        with_reducible refine (HFA.out r r.p 9 _).mono ?_
        rintro e V6 ⟨rfl, b6⟩
        have L6 := Lib.hid (L4.out.call b6)
        clear b6
        obtain ⟨w9, h9, z2, z3, hh2, hh3, bb, ff⟩ := L6.out.two (q2 := q2) (q3 := q3) 1 2 rfl rfl (by decide) #[.string S, .int .i64 (((r.fail r.p 9)).p : Int), .int .i64 ((r.fail r.p 9)).co] #[.int .i64 0, .int .u64 0, .int .u64 0, .int .u64 0, .int .u64 0, .slice none 0 0, .int .i64 0, .int .i64 0]
        replace h9 := Lib.hid h9
        go_wp2_with (first | (refine stQ 4 rfl rfl rfl rfl z2 ?_) | (refine stT 5 rfl rfl rfl rfl z3 ?_))
        rw [← h9.out]
        clear  z2 z3
        obtain ⟨k0, k1, k2⟩ := box3 hh2
        obtain ⟨m0, m1, m2, m3, m4, m5, m6, m7⟩ := box8 hh3
        refine bodyPost_ret (v := .tuple #[.agg #[.string S, .int .i64 (((r.fail r.p 9)).p : Int), .int .i64 ((r.fail r.p 9)).co], .agg #[.int .i64 0, .int .u64 0, .int .u64 0, .int .u64 0, .int .u64 0, .slice none 0 0, .int .i64 0, .int .i64 0]]) (by simp [results, Try.results41, go_sem, k0, k1, k2, m0, m1, m2, m3, m4, m5, m6, m7]) rfl ?_
        exact RrA.leaf (k := 0) (cl := .zero) HV.out bb
       ·
        have HSP : Hid (∀ W : World, Calls Try.prog 54 #[.int .u8 (z : Int)] W (fun e w' => e = .returned (.bool false) ∧ w' = W)) := fun W => by have h := rr_special z W; rw [gs] at h; exact h
        have j6 : ¬ (z : Int) < 32 := by omega
        have j7 : ¬ (126 : Int) < (z : Int) := by omega
        have HV : Hid (m = (r1, .mk 2 (.one z) [] 0 0)) := HM5.out.trans (if_neg (by rw [gs]; exact fun h => h.elim (fun h => by cases h.1) (fun h => h.elim g6 g7)))
        clear HM5 gs g6 g7
        have HSG : Hid (∀ W : World, Calls Try.prog 55 #[.int .u8 (z : Int)] W (fun e w' => e = .returned (.agg #[.int .u64 (Cls.one z).a, .int .u64 (Cls.one z).b, .int .u64 (Cls.one z).c, .int .u64 (Cls.one z).d]) ∧ Below W.heap.size W w')) := fun W => rr_single z W hz8
        obtain ⟨q, hq⟩ : ∃ x, x = w.heap.size := ⟨_, rfl⟩
        have L1 := Lib.hid ((Lop.nil w).add (q := q) 48 #[.string S, .int .i64 ((r).p : Int), .int .i64 (r).co] hq)
        obtain ⟨q2, hq2⟩ : ∃ x, x = w.heap.size + 1 := ⟨_, rfl⟩
        have L2 := Lib.hid (L1.out.add (q := q2) 48 #[.string ⟨#[]⟩, .int .i64 0, .int .i64 0] (by simp only [World.size_alloc]; exact hq2))
        obtain ⟨q3, hq3⟩ : ∃ x, x = w.heap.size + 1 + 1 := ⟨_, rfl⟩
        have L3 := Lib.hid (L2.out.add (q := q3) 28 #[.int .i64 0, .int .u64 0, .int .u64 0, .int .u64 0, .int .u64 0, .slice none 0 0, .int .i64 0, .int .i64 0] (by simp only [World.size_alloc]; exact hq3))
        obtain ⟨V4, hV4, L4⟩ := L3.out.nm
        replace L4 := Lib.hid L4; replace hV4 := Lib.hid hV4
        replace hq := Lib.hid hq
        replace hq2 := Lib.hid hq2
        replace hq3 := Lib.hid hq3
        go_enter Try.func41, Try.ntmps41
        go_wp2_with fail
        rw [← hV4.out, ← hq3.out, ← hq2.out, ← hq.out]
        with_reducible refine (HSP.out _).mono ?_
        rintro e V9 ⟨rfl, rfl⟩
        have y5 := L4.out.at (q := q) 0 rfl
        have e5_1 := boxc y5 1 _ rfl
        have f5_1 := boxf y5 1
        have ip6 : (r.p : Int) + 1 = (r1.p : Int) := by rw [R1.out]; rfl
        have iw6 : IntKind.i64.wrap (r1.p : Int) = (r1.p : Int) := IntWalk.i64_in _ (by omega)
        have iv6 : IntKind.i64.wrap ((r.p : Int) + 1) = (r1.p : Int) := by rw [ip6]; exact iw6
        have L6 := Lib.hid (L4.out.cell (q := q) 0 rfl 1 (.int .i64 (r1.p : Int)) #[.string S, .int .i64 ((r1).p : Int), .int .i64 (r1).co] (by rw [R1.out]; rfl))
        go_wp2_with fail
        clear y5 e5_1 f5_1 ip6 iw6 iv6
        obtain ⟨V7, hV7, L7⟩ := L6.out.nm
        replace L7 := Lib.hid L7; replace hV7 := Lib.hid hV7
        rw [← hV7.out]
        have N32 := Lib.hid (L7.out.nq (p := q3) (q := q2) 2 1 rfl rfl (by decide))
        have Y2 := Lib.hid (L7.out.at (q := q) 0 rfl)
        have A2 := Lib.hid (L7.out.nq (p := q) (q := q2) 0 1 rfl rfl (by decide))
        have B2 := Lib.hid (L7.out.nq (p := q) (q := q3) 0 2 rfl rfl (by decide))
        refine wp_flow 6 (fun _ => 1000) (Dr q2 q3 48 28 3 8 _) (Ts 4 5 q2 q3 48 28 #[.string S, .int .i64 ((r1).p : Int), .int .i64 (r1).co] #[.int .i64 2, .int .u64 (Cls.one z).a, .int .u64 (Cls.one z).b, .int .u64 (Cls.one z).c, .int .u64 (Cls.one z).d, .slice none 0 0, .int .i64 0, .int .i64 0]) (fun kF vF wF => match kF with | 0 => (vF = .agg #[.string S, .int .i64 ((r1).p : Int), .int .i64 (r1).co]) | 1 => (vF = .int .u8 (z : Int)) | 2 => (vF = .agg #[.int .u64 (Cls.one z).a, .int .u64 (Cls.one z).b, .int .u64 (Cls.one z).c, .int .u64 (Cls.one z).d]) | 3 => (vF = .agg #[.int .i64 2, .int .u64 (Cls.one z).a, .int .u64 (Cls.one z).b, .int .u64 (Cls.one z).c, .int .u64 (Cls.one z).d, .slice none 0 0, .int .i64 0, .int .i64 0]) | 4 => (wF.heap[q2]? = some (.cells #[.string S, .int .i64 ((r1).p : Int), .int .i64 (r1).co] 48 (0, 0))) | 5 => (wF.heap[q3]? = some (.cells #[.int .i64 2, .int .u64 (Cls.one z).a, .int .u64 (Cls.one z).b, .int .u64 (Cls.one z).c, .int .u64 (Cls.one z).d, .slice none 0 0, .int .i64 0, .int .i64 0] 28 (0, 0))) | _ => True) (fun _ _ _ _ => True) (by kernel_rfl) (by kernel_rfl) ((Dr.refl (L7.out.at (q := q2) 1 rfl) (L7.out.at (q := q3) 2 rfl) rfl rfl).below (Below.refl _ _).drew) (fun _ _ _ hR hT => Dr.ts N32.out rfl rfl hR hT) ?_ ?_ ?_
        ·
         intro kF hkF iF hiF hne hdd hanc hdan vF wF1 wF2 h hT
         rcases (by omega : kF = 0 ∨ kF = 1 ∨ kF = 2 ∨ kF = 3 ∨ kF = 4 ∨ kF = 5) with rfl | rfl | rfl | rfl | rfl | rfl
         all_goals first | exact h | exact Ts.keep2 N32.out hne h hT | exact Ts.keep3 N32.out hne h hT
        ·
         generalize hAF : fillOf _ _ _ = AF
         replace hAF := fun x => congrFun hAF x
         simp only [List.take_succ_cons, List.take_zero, fillOf, Act.put, List.setIfInBounds_toArray, List.set_cons_zero, List.set_cons_succ, Nat.reduceAdd, Nat.zero_add] at hAF
         refine FlowAll.cons ?_ (FlowAll.cons ?_ (FlowAll.cons ?_ (FlowAll.cons ?_ (FlowAll.cons ?_ (FlowAll.cons ?_ FlowAll.nil)))))
         all_goals
          intro xF wz hR hd K hK
          simp only [← hAF, Act.put, List.setIfInBounds_toArray, List.set_cons_zero, List.set_cons_succ] at hK ⊢
          clear hAF
          try simp only [Nat.zero_add] at hK ⊢
          try simp only [Nat.reduceAdd] at hK ⊢
         ·
          clear hd
          obtain ⟨c0, c1, c2⟩ := box3 ((hR.2.2.1 _ (lt_of_block Y2.out) A2.out B2.out).trans Y2.out)
          rw [if_pos (by rfl)]
          go_simp
          exact hK.out _ _ (Ts.no (by decide) (by decide) (Below.refl _ _)) rfl (fun _ _ _ => ⟨trivial, trivial⟩)
         ·
          clear hd
          rw [if_pos (by rfl)]
          go_simp
          exact hK.out _ _ (Ts.no (by decide) (by decide) (Below.refl _ _)) rfl (fun _ _ _ => ⟨trivial, trivial⟩)
         ·
          have dd1 : ((xF 1) = .int .u8 (z : Int)) := hd 1 (by kernel_rfl)
          clear hd
          generalize xF 1 = yy1 at *
          obtain rfl := dd1
          rw [if_pos (by rfl)]
          go_simp
          (go_at_call 55; (with_reducible refine (HSG.out _).mono ?_); rintro e wK ⟨rfl, hbK⟩)
          try go_wp2_with fail
          exact hK.out _ _ (Ts.no (by decide) (by decide) (hbK)) rfl (fun _ _ _ => ⟨trivial, trivial⟩)
         ·
          have dd2 : ((xF 2) = .agg #[.int .u64 (Cls.one z).a, .int .u64 (Cls.one z).b, .int .u64 (Cls.one z).c, .int .u64 (Cls.one z).d]) := hd 2 (by kernel_rfl)
          clear hd
          generalize xF 2 = yy2 at *
          obtain rfl := dd2
          rw [if_pos (by rfl)]
          go_simp
          exact hK.out _ _ (Ts.no (by decide) (by decide) (Below.refl _ _)) rfl (fun _ _ _ => ⟨trivial, trivial⟩)
         ·
          have dd0 : ((xF 0) = .agg #[.string S, .int .i64 ((r1).p : Int), .int .i64 (r1).co]) := hd 0 (by kernel_rfl)
          clear hd
          generalize xF 0 = yy0 at *
          obtain rfl := dd0
          obtain ⟨csO, hcO, hzO⟩ := hR.2.2.2.1
          rw [if_pos (by rfl)]
          refine wp_store_row 48 (.tmp 4) (.tmp 117) rfl q2 #[.string S, .int .i64 ((r1).p : Int), .int .i64 (r1).co] rfl rfl 48 csO hzO rdsize hcO (by simp [Value.oneCell']) ?_
          exact hK.out undef _ (Ts.is2 (by decide) KX.row (setRow_heap _ _ _ _ _ _ hzO)) (setRow_heap _ _ _ _ _ _ hzO) (fun _ _ _ => ⟨trivial, trivial⟩)
         ·
          have dd3 : ((xF 3) = .agg #[.int .i64 2, .int .u64 (Cls.one z).a, .int .u64 (Cls.one z).b, .int .u64 (Cls.one z).c, .int .u64 (Cls.one z).d, .slice none 0 0, .int .i64 0, .int .i64 0]) := hd 3 (by kernel_rfl)
          clear hd
          generalize xF 3 = yy3 at *
          obtain rfl := dd3
          obtain ⟨csO, hcO, hzO⟩ := hR.2.2.2.2
          rw [if_pos (by rfl)]
          refine wp_store_row 28 (.tmp 5) (.tmp 120) rfl q3 #[.int .i64 2, .int .u64 (Cls.one z).a, .int .u64 (Cls.one z).b, .int .u64 (Cls.one z).c, .int .u64 (Cls.one z).d, .slice none 0 0, .int .i64 0, .int .i64 0] rfl rfl 28 csO hzO rsize hcO (by simp [Value.oneCell']) ?_
          exact hK.out undef _ (Ts.is3 KX.row (setRow_heap _ _ _ _ _ _ hzO)) (setRow_heap _ _ _ _ _ _ hzO) (fun _ _ _ => ⟨trivial, trivial⟩)
        intro xF wz hR hF hP
        have hh2 : wz.heap[q2]? = some (.cells #[.string S, .int .i64 ((r1).p : Int), .int .i64 (r1).co] 48 (0, 0)) := hF 4 (by omega) (by decide)
        have hh3 : wz.heap[q3]? = some (.cells #[.int .i64 2, .int .u64 (Cls.one z).a, .int .u64 (Cls.one z).b, .int .u64 (Cls.one z).c, .int .u64 (Cls.one z).d, .slice none 0 0, .int .i64 0, .int .i64 0] 28 (0, 0)) := hF 5 (by omega) (by decide)
        obtain ⟨bb, ff⟩ := L7.out.drend (q2 := q2) (q3 := q3) 1 2 rfl rfl (by decide) hR hh2 hh3
        clear hP hF hR
        simp only [List.take_succ_cons, List.take_zero, List.drop_succ_cons, List.drop_zero, fillOf, Act.put, List.setIfInBounds_toArray, List.set_cons_zero, List.set_cons_succ, Nat.reduceAdd, Nat.zero_add]
        try generalize xF 0 = yy0
        try generalize xF 1 = yy1
        try generalize xF 2 = yy2
        try generalize xF 3 = yy3
        try generalize xF 4 = yy4
        try generalize xF 5 = yy5
        clear xF
        obtain ⟨k0, k1, k2⟩ := box3 hh2
        obtain ⟨m0, m1, m2, m3, m4, m5, m6, m7⟩ := box8 hh3
        go_wp2_with fail
        refine bodyPost_ret (v := .tuple #[.agg #[.string S, .int .i64 ((r1).p : Int), .int .i64 (r1).co], .agg #[.int .i64 2, .int .u64 (Cls.one z).a, .int .u64 (Cls.one z).b, .int .u64 (Cls.one z).c, .int .u64 (Cls.one z).d, .slice none 0 0, .int .i64 0, .int .i64 0]]) (by simp [results, Try.results41, go_sem, k0, k1, k2, m0, m1, m2, m3, m4, m5, m6, m7]) rfl ?_
        exact RrA.leaf (k := 2) (cl := .one z) HV.out bb
end Go.Proofs.Ytbccejlemhgioaa
