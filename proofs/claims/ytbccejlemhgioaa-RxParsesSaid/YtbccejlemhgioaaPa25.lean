/- texts put together: RrPar, RfBnd. -/
import Derived.Test.YtbccejlemhgioaaPa05
import Derived.Test.YtbccejlemhgioaaPa24
namespace Go.Proofs.Ytbccejlemhgioaa
open Go Go.RowKit Go.ChangeShapes cl rx
open rf
theorem rr_either (S : ByteArray) (hS : S.size ≤ 60) : ∀ n : Nat, n ≤ 12 → ∀ (x : rr.R) (W : World), x.p ≤ S.size → Calls Try.prog 22 #[.agg #[.string S, .int .i64 ((x).p : Int), .int .i64 (x).co], .int .i64 (n : Int)] W (RrA (3 * n + 4) S (rr.either (kit.bytes S) n x) W) := by
 intro n
 induction n with
 | zero =>
  intro _ x W hx
  have hA := rr.atom_gd (kit.bytes S) 1 (Nat.le_refl _) none (fun e he => by cases he)
  have h1 := fun (x : rr.R) (W : World) (hp : x.p < S.size) => rr_atom 0 S none 0 (-1) (by decide) (by decide) (fun _ => rfl) (fun e he => by cases he) x W hS hp
  have h2 := fun (x : rr.R) (W : World) (hc : x.co = 0) (hp : x.p < S.size) => rr_many 0 1 S _ hA 0 h1 x W hS hc hp
  have hM := rr.many_gd (kit.bytes S) (Nat.le_refl _) hA
  have h3 := fun (x : rr.R) (W : World) (hp : x.p ≤ S.size) => rr_row 1 1 S _ hM (by decide) 0 h2 x W hS hp
  exact rr_either_of 2 1 S _ hM (by decide) 0 h3 x W hS hx
 | succ n ih =>
  intro hn x W hx
  have hE := (rr.either_ge (kit.bytes S) n).2
  have hA := rr.atom_gd (kit.bytes S) (3 * n + 4) (by omega) (some (rr.either (kit.bytes S) n)) (fun e he => by cases he; exact hE)
  have h1 := fun (x : rr.R) (W : World) (hp : x.p < S.size) => rr_atom (3 * n + 3) S (some (rr.either (kit.bytes S) n)) ((n + 1 : Nat) : Int) (n : Int) (by omega) (by omega) (fun h => by cases h) (fun e he => by cases he; exact ⟨by omega, fun x W hx => ih (by omega) x W hx⟩) x W hS hp
  have h2 := fun (x : rr.R) (W : World) (hc : x.co = 0) (hp : x.p < S.size) => rr_many (3 * n + 3) (3 * n + 4) S _ hA ((n + 1 : Nat) : Int) h1 x W hS hc hp
  have hM := rr.many_gd (kit.bytes S) (by omega) hA
  have h3 := fun (x : rr.R) (W : World) (hp : x.p ≤ S.size) => rr_row (3 * n + 4) (3 * n + 4) S _ hM (by omega) ((n + 1 : Nat) : Int) h2 x W hS hp
  exact rr_either_of (3 * n + 5) (3 * n + 4) S _ hM (by omega) ((n + 1 : Nat) : Int) h3 x W hS hx
def PrA (d : Nat) (m : Pat × Int × Int) (w : World) (e : Ending) (w' : World) : Prop := ∃ c, e = .returned (.tuple #[.agg (List.toArray c), .int .i64 m.2.1, .int .i64 m.2.2]) ∧ Fre w.heap.size w' (fun W => rxR d W W.heap.size c m.1) ∧ Below w.heap.size w w'
theorem PrA.of {d : Nat} {m : Pat × Int × Int} {x : Pat} {a b : Int} {c : List Value} {w w' : World} (h : m = (x, a, b)) (hf : Fre w.heap.size w' (fun W => rxR d W W.heap.size c x)) (hb : Below w.heap.size w w') : PrA d m w (.returned (.tuple #[.agg (List.toArray c), .int .i64 a, .int .i64 b])) w' := by
 subst h
 exact ⟨c, rfl, hf, hb⟩
theorem PrA.zero {m : Pat × Int × Int} {a b : Int} {w w' : World} (h : m = (.mk 0 .zero [] 0 0, a, b)) (hb : Below w.heap.size w w') : PrA 40 m w (.returned (.tuple #[.agg #[.int .i64 0, .int .u64 0, .int .u64 0, .int .u64 0, .int .u64 0, .slice none 0 0, .int .i64 0, .int .i64 0], .int .i64 a, .int .i64 b])) w' := by
 subst h
 exact ⟨[.int .i64 0, .int .u64 (Cls.zero.a : Int), .int .u64 (Cls.zero.b : Int), .int .u64 (Cls.zero.c : Int), .int .u64 (Cls.zero.d : Int), .slice none 0 0, .int .i64 0, .int .i64 0], rfl, fun _ _ _ => rx_leaf, hb⟩
set_option maxHeartbeats 25600000 in
set_option maxRecDepth 100000 in
set_option linter.unusedSimpArgs false in
theorem rr_parse_any (S : ByteArray) (w : World) : Calls Try.prog 9 #[.string S] w (PrA 40 (rr.parse (kit.bytes S)) w) := by
 have hlen : (kit.bytes S).length = S.size := by simp [kit.bytes]
 obtain ⟨m, hm⟩ : ∃ m, m = rr.parse (kit.bytes S) := ⟨_, rfl⟩
 rw [← hm]
 unfold rr.parse at hm
 rw [hlen] at hm
 have HM := Lib.hid hm
 clear hm hlen
 by_cases hl : 60 < S.size
 ·
  have HV : Hid (m = (.mk 0 .zero [] 0 0, 0, 4)) := HM.out.trans (if_pos hl)
  have jl : (60 : Int) < (S.size : Int) := by omega
  have HL := Lib.hid hl
  have jn : 60 < S.size := hl
  clear hl HM
  obtain ⟨q2, hq2⟩ : ∃ x, x = w.heap.size := ⟨_, rfl⟩
  have L1 := Lib.hid ((Lop.nil w).add (q := q2) 28 #[.int .i64 0, .int .u64 0, .int .u64 0, .int .u64 0, .int .u64 0, .slice none 0 0, .int .i64 0, .int .i64 0] hq2)
  obtain ⟨V2, hV2, L2⟩ := L1.out.nm
  replace L2 := Lib.hid L2; replace hV2 := Lib.hid hV2
  replace hq2 := Lib.hid hq2
  have z2 := L2.out.at (q := q2) 0 rfl
  go_enter Try.func9, Try.ntmps9
  go_wp2_with ((with_reducible show wpList _ _ _ (Oper.mk _ (Op.store 28 (.tmp 2) _) _ _ _ _ :: _) _ _); rw [← hV2.out, ← hq2.out]; refine stT 2 rfl rfl rfl rfl z2 ?_)
  have L3 := Lib.hid (L2.out.row (q := q2) 0 rfl #[.int .i64 0, .int .u64 0, .int .u64 0, .int .u64 0, .int .u64 0, .slice none 0 0, .int .i64 0, .int .i64 0])
  clear z2
  obtain ⟨V4, hV4, L4⟩ := L3.out.nm
  replace L4 := Lib.hid L4; replace hV4 := Lib.hid hV4
  rw [← hV4.out]
  obtain ⟨m0, m1, m2, m3, m4, m5, m6, m7⟩ := box8 (L4.out.at (q := q2) 0 rfl)
  refine bodyPost_ret (v := .tuple #[.agg #[.int .i64 0, .int .u64 0, .int .u64 0, .int .u64 0, .int .u64 0, .slice none 0 0, .int .i64 0, .int .i64 0], .int .i64 0, .int .i64 4]) (by simp [results, Try.results9, go_sem, m0, m1, m2, m3, m4, m5, m6, m7]) rfl ?_
  exact PrA.zero HV.out L4.out.1.1
 ·
  have hS : S.size ≤ 60 := by omega
  have jl : ¬ (60 : Int) < (S.size : Int) := by omega
  have hm2 := HM.out.trans (if_neg hl)
  simp only at hm2
  have jn : ¬ 60 < S.size := hl
  obtain ⟨r1, hr1⟩ : ∃ y, y = (rr.either (kit.bytes S) 12 ⟨0, 0⟩).1 := ⟨_, rfl⟩
  obtain ⟨x, hx⟩ : ∃ y, y = (rr.either (kit.bytes S) 12 ⟨0, 0⟩).2 := ⟨_, rfl⟩
  have hex : rr.either (kit.bytes S) 12 ⟨0, 0⟩ = (r1, x) := by rw [hr1, hx]
  have HEC : Hid (∀ W : World, Calls Try.prog 22 #[.agg #[.string S, .int .i64 0, .int .i64 0], .int .i64 12] W (RrA 40 S (r1, x) W)) := fun W => by have h := rr_either S hS 12 (Nat.le_refl _) ⟨0, 0⟩ W (Nat.zero_le _); rw [hex] at h; exact h
  have hge := (rr.either_ge (kit.bytes S) 12).2 ⟨0, 0⟩ (Nat.zero_le _)
  rw [hex] at hge hm2
  simp only at hm2
  have h1S : r1.p ≤ S.size := by have := hge.2.1; simpa [kit.bytes] using this
  have HM2 := Lib.hid hm2
  clear HM hm2 hr1 hx hex hge hl
  obtain ⟨q2, hq2⟩ : ∃ x, x = w.heap.size := ⟨_, rfl⟩
  have L1 := Lib.hid ((Lop.nil w).add (q := q2) 28 #[.int .i64 0, .int .u64 0, .int .u64 0, .int .u64 0, .int .u64 0, .slice none 0 0, .int .i64 0, .int .i64 0] hq2)
  obtain ⟨V2, hV2, L2⟩ := L1.out.nm
  replace L2 := Lib.hid L2; replace hV2 := Lib.hid hV2
  replace hq2 := Lib.hid hq2
  go_enter Try.func9, Try.ntmps9
  go_wp2_with fail
  rw [← hV2.out, ← hq2.out]
  with_reducible refine (HEC.out _).mono ?_
  rintro e V3 ⟨c3, rfl, f3, b3⟩
  obtain ⟨ko3, kn3, kc3, rfl⟩ := rx_form f3.at
  have L3 := Lib.hid (L2.out.keep b3 f3)
  clear b3 f3
  clear HEC
  by_cases gc : r1.co ≠ 0
  ·
   have hne : ¬ (r1.co = 0 ∧ r1.p < S.size) := fun h => gc h.1
   have HV : Hid (m = (.mk 0 .zero [] 0 0, (r1.p : Int), r1.co)) := by show _ = _; rw [HM2.out, if_neg hne, if_pos gc]; rfl
   have j1 : (r1.co == 0) = false := beq_eq_false_iff_ne.2 gc
   have j2 : (r1.co != 0) = true := by simp [gc]
   clear gc hne HM2
   obtain ⟨q5, hq5⟩ : ∃ x, x = V3.heap.size := ⟨_, rfl⟩
   have L4 := Lib.hid (L3.out.add (q := q5) 48 #[.string S, .int .i64 ((r1).p : Int), .int .i64 (r1).co] hq5)
   obtain ⟨q6, hq6⟩ : ∃ x, x = V3.heap.size + 1 := ⟨_, rfl⟩
   have L5 := Lib.hid (L4.out.add (q := q6) 28 #[.int .i64 x.k, .int .u64 x.cl.a, .int .u64 x.cl.b, .int .u64 x.cl.c, .int .u64 x.cl.d, .slice ko3 kn3 kc3, .int .i64 x.mn, .int .i64 x.mx] (by simp only [World.size_alloc]; exact hq6))
   obtain ⟨V6, hV6, L6⟩ := L5.out.nm
   replace L6 := Lib.hid L6; replace hV6 := Lib.hid hV6
   replace hq5 := Lib.hid hq5
   replace hq6 := Lib.hid hq6
   go_wp2_with fail
   rw [← hV6.out, ← hq6.out, ← hq5.out]
   have Y5 := Lib.hid (L6.out.at (q := q5) 1 rfl)
   have N52 := Lib.hid (L6.out.nq (p := q5) (q := q2) 1 0 rfl rfl (by decide))
   have Z2 := Lib.hid (L6.out.at (q := q2) 0 rfl)
   refine wp_flow 8 (fun _ => 1000) (fun ww => KX q2 V6 ww ∧ ww.heap[q2]? = some (.cells #[.int .i64 0, .int .u64 0, .int .u64 0, .int .u64 0, .int .u64 0, .slice none 0 0, .int .i64 0, .int .i64 0] 28 (0, 0))) (fun _ => (fun (w w' : World) => KX q2 w w' ∧ w'.heap[q2]? = some (.cells #[.int .i64 0, .int .u64 0, .int .u64 0, .int .u64 0, .int .u64 0, .slice none 0 0, .int .i64 0, .int .i64 0] 28 (0, 0)))) (fun kF vF _ => match kF with | 0 => (vF = .agg #[.int .i64 0, .int .u64 0, .int .u64 0, .int .u64 0, .int .u64 0, .slice none 0 0, .int .i64 0, .int .i64 0]) | 1 => (vF = .pointer (some ⟨q5, 1, none⟩)) | 2 => (vF = .int .i64 (r1.p : Int)) | 3 => (vF = .pointer (some ⟨q5, 2, none⟩)) | 4 => (vF = .int .i64 r1.co) | 6 => (vF = .int .i64 (r1.p : Int)) | 7 => (vF = .int .i64 r1.co) | _ => True) (fun _ _ _ _ => True) (by kernel_rfl) (by kernel_rfl) ⟨KX.of (Below.refl _ _).drew, ((Below.refl V6.heap.size V6).drew.block q2 (lt_of_block Z2.out)).trans Z2.out⟩ (fun _ _ _ hR hT => ⟨hR.1.trans hT.1, hT.2⟩) ?_ ?_ ?_
   ·
    intro kF hkF iF hiF hne hdd hanc hdan vF wF1 wF2 h hT
    rcases (by omega : kF = 0 ∨ kF = 1 ∨ kF = 2 ∨ kF = 3 ∨ kF = 4 ∨ kF = 5 ∨ kF = 6 ∨ kF = 7) with rfl | rfl | rfl | rfl | rfl | rfl | rfl | rfl
    all_goals exact h
   ·
    generalize hAF : fillOf _ _ _ = AF
    replace hAF := fun x => congrFun hAF x
    simp only [List.take_succ_cons, List.take_zero, fillOf, Act.put, List.setIfInBounds_toArray, List.set_cons_zero, List.set_cons_succ, Nat.reduceAdd, Nat.zero_add] at hAF
    refine FlowAll.cons ?_ (FlowAll.cons ?_ (FlowAll.cons ?_ (FlowAll.cons ?_ (FlowAll.cons ?_ (FlowAll.cons ?_ (FlowAll.cons ?_ (FlowAll.cons ?_ FlowAll.nil)))))))
    all_goals
     intro xF wz hR hd K hK
     simp only [← hAF, Act.put, List.setIfInBounds_toArray, List.set_cons_zero, List.set_cons_succ] at hK ⊢
     clear hAF
     try simp only [Nat.zero_add] at hK ⊢
     try simp only [Nat.reduceAdd] at hK ⊢
    ·
     clear hd
     rw [if_pos (by rfl)]
     go_simp
     exact hK.out _ _ ⟨KX.refl, hR.2⟩ rfl (fun _ _ _ => ⟨trivial, trivial⟩)
    ·
     clear hd
     rw [if_pos (by rfl)]
     go_simp
     exact hK.out _ _ ⟨KX.refl, hR.2⟩ rfl (fun _ _ _ => ⟨trivial, trivial⟩)
    ·
     have dd1 : (xF 1 = .pointer (some ⟨q5, 1, none⟩)) := hd 1 (by kernel_rfl)
     clear hd
     generalize xF 1 = yy1 at *
     obtain rfl := dd1
     obtain ⟨c0, c1, c2⟩ := box3 ((hR.1.2.2 q5 (lt_of_block Y5.out) N52.out).trans Y5.out)
     rw [if_pos (by rfl)]
     go_simp
     exact hK.out _ _ ⟨KX.refl, hR.2⟩ rfl (fun _ _ _ => ⟨trivial, trivial⟩)
    ·
     clear hd
     rw [if_pos (by rfl)]
     go_simp
     exact hK.out _ _ ⟨KX.refl, hR.2⟩ rfl (fun _ _ _ => ⟨trivial, trivial⟩)
    ·
     have dd3 : (xF 3 = .pointer (some ⟨q5, 2, none⟩)) := hd 3 (by kernel_rfl)
     clear hd
     generalize xF 3 = yy3 at *
     obtain rfl := dd3
     obtain ⟨c0, c1, c2⟩ := box3 ((hR.1.2.2 q5 (lt_of_block Y5.out) N52.out).trans Y5.out)
     rw [if_pos (by rfl)]
     go_simp
     exact hK.out _ _ ⟨KX.refl, hR.2⟩ rfl (fun _ _ _ => ⟨trivial, trivial⟩)
    ·
     have dd0 : (xF 0 = .agg #[.int .i64 0, .int .u64 0, .int .u64 0, .int .u64 0, .int .u64 0, .slice none 0 0, .int .i64 0, .int .i64 0]) := hd 0 (by kernel_rfl)
     clear hd
     generalize xF 0 = yy0 at *
     obtain rfl := dd0
     rw [if_pos (by rfl)]
     refine wp_store_row 28 (.tmp 2) (.tmp 34) rfl q2 #[.int .i64 0, .int .u64 0, .int .u64 0, .int .u64 0, .int .u64 0, .slice none 0 0, .int .i64 0, .int .i64 0] rfl rfl 28 _ hR.2 rsize rfl (by simp [Value.oneCell']) ?_
     exact hK.out undef _ ⟨KX.row, setRow_heap _ _ _ _ _ _ hR.2⟩ trivial (fun _ _ _ => ⟨trivial, trivial⟩)
    ·
     have dd2 : (xF 2 = .int .i64 (r1.p : Int)) := hd 2 (by kernel_rfl)
     clear hd
     generalize xF 2 = yy2 at *
     obtain rfl := dd2
     rw [if_pos (by rfl)]
     go_simp
     exact hK.out _ _ ⟨KX.refl, hR.2⟩ rfl (fun _ _ _ => ⟨trivial, trivial⟩)
    ·
     have dd4 : (xF 4 = .int .i64 r1.co) := hd 4 (by kernel_rfl)
     clear hd
     generalize xF 4 = yy4 at *
     obtain rfl := dd4
     rw [if_pos (by rfl)]
     go_simp
     exact hK.out _ _ ⟨KX.refl, hR.2⟩ rfl (fun _ _ _ => ⟨trivial, trivial⟩)
   intro xF wz hR hF hP
   have dd6 : (xF 6 = .int .i64 (r1.p : Int)) := hF 6 (by omega) (by decide)
   have dd7 : (xF 7 = .int .i64 r1.co) := hF 7 (by omega) (by decide)
   have bb := (L6.out.1.turn (q := q2) 0 rfl hR.1 hR.2).1
   obtain ⟨m0, m1, m2, m3, m4, m5, m6, m7⟩ := box8 hR.2
   clear hP hF hR
   simp only [List.take_succ_cons, List.take_zero, List.drop_succ_cons, List.drop_zero, fillOf, Act.put, List.setIfInBounds_toArray, List.set_cons_zero, List.set_cons_succ, Nat.reduceAdd, Nat.zero_add]
   try generalize xF 0 = yy0 at *
   try generalize xF 1 = yy1 at *
   try generalize xF 2 = yy2 at *
   try generalize xF 3 = yy3 at *
   try generalize xF 4 = yy4 at *
   try generalize xF 5 = yy5 at *
   try generalize xF 6 = yy6 at *
   try generalize xF 7 = yy7 at *
   clear xF
   obtain rfl := dd6
   obtain rfl := dd7
   go_wp2_with fail
   refine bodyPost_ret (v := .tuple #[.agg #[.int .i64 0, .int .u64 0, .int .u64 0, .int .u64 0, .int .u64 0, .slice none 0 0, .int .i64 0, .int .i64 0], .int .i64 (r1.p : Int), .int .i64 r1.co]) (by simp [results, Try.results9, go_sem, m0, m1, m2, m3, m4, m5, m6, m7]) rfl ?_
   exact PrA.zero HV.out bb
  ·
   have hc0 : r1.co = 0 := Decidable.not_not.1 gc
   have j1 : (r1.co == 0) = true := by rw [hc0]; rfl
   by_cases gp : r1.p < S.size
   ·
    obtain ⟨r2, hr2⟩ : ∃ y, y = r1.fail r1.p 9 := ⟨_, rfl⟩
    have hc2 : r2.co ≠ 0 := by rw [hr2]; exact rr.fail_co (by decide)
    have HV : Hid (m = (.mk 0 .zero [] 0 0, (r2.p : Int), r2.co)) := by show _ = _; rw [HM2.out, if_pos (show r1.co = 0 ∧ r1.p < S.size from ⟨hc0, gp⟩), ← hr2, if_pos hc2]; rfl
    have HFA : Hid (∀ W : World, Calls Try.prog 23 #[.agg #[.string S, .int .i64 ((r1).p : Int), .int .i64 (r1).co], .int .i64 (r1.p : Int), .int .i64 9] W (fun e w' => e = .returned (.agg #[.string S, .int .i64 ((r2).p : Int), .int .i64 (r2).co]) ∧ Below W.heap.size W w')) := by rw [hr2]; exact fun W => rr_fail S r1 r1.p 9 W
    have jp : (r1.p : Int) < (S.size : Int) := by omega
    have j2 : (r2.co != 0) = true := by simp [hc2]
    clear gc hc0 gp hr2 hc2 HM2
    obtain ⟨q5, hq5⟩ : ∃ x, x = V3.heap.size := ⟨_, rfl⟩
    have L4 := Lib.hid (L3.out.add (q := q5) 48 #[.string S, .int .i64 ((r1).p : Int), .int .i64 (r1).co] hq5)
    obtain ⟨q6, hq6⟩ : ∃ x, x = V3.heap.size + 1 := ⟨_, rfl⟩
    have L5 := Lib.hid (L4.out.add (q := q6) 28 #[.int .i64 x.k, .int .u64 x.cl.a, .int .u64 x.cl.b, .int .u64 x.cl.c, .int .u64 x.cl.d, .slice ko3 kn3 kc3, .int .i64 x.mn, .int .i64 x.mx] (by simp only [World.size_alloc]; exact hq6))
    obtain ⟨V6, hV6, L6⟩ := L5.out.nm
    replace L6 := Lib.hid L6; replace hV6 := Lib.hid hV6
    replace hq5 := Lib.hid hq5
    replace hq6 := Lib.hid hq6
    go_wp2_with fail
    rw [← hV6.out, ← hq6.out, ← hq5.out]
    with_reducible refine (HFA.out _).mono ?_
    rintro e V7 ⟨rfl, b7⟩
    have L7 := Lib.hid (L6.out.call b7)
    clear b7
    have z8 := L7.out.at (q := q5) 1 rfl
    have L8 := Lib.hid (L7.out.row (q := q5) 1 rfl #[.string S, .int .i64 ((r2).p : Int), .int .i64 (r2).co])
    obtain ⟨e9_0, e9_1, e9_2⟩ := box3 (L8.out.at (q := q5) 1 rfl)
    go_wp2_with (refine stQ 5 rfl rfl rfl rfl z8 ?_)
    clear z8 e9_0 e9_1 e9_2
    obtain ⟨V10, hV10, L10⟩ := L8.out.nm
    replace L10 := Lib.hid L10; replace hV10 := Lib.hid hV10
    rw [← hV10.out]
    have Y5 := Lib.hid (L10.out.at (q := q5) 1 rfl)
    have N52 := Lib.hid (L10.out.nq (p := q5) (q := q2) 1 0 rfl rfl (by decide))
    have Z2 := Lib.hid (L10.out.at (q := q2) 0 rfl)
    refine wp_flow 8 (fun _ => 1000) (fun ww => KX q2 V10 ww ∧ ww.heap[q2]? = some (.cells #[.int .i64 0, .int .u64 0, .int .u64 0, .int .u64 0, .int .u64 0, .slice none 0 0, .int .i64 0, .int .i64 0] 28 (0, 0))) (fun _ => (fun (w w' : World) => KX q2 w w' ∧ w'.heap[q2]? = some (.cells #[.int .i64 0, .int .u64 0, .int .u64 0, .int .u64 0, .int .u64 0, .slice none 0 0, .int .i64 0, .int .i64 0] 28 (0, 0)))) (fun kF vF _ => match kF with | 0 => (vF = .agg #[.int .i64 0, .int .u64 0, .int .u64 0, .int .u64 0, .int .u64 0, .slice none 0 0, .int .i64 0, .int .i64 0]) | 1 => (vF = .pointer (some ⟨q5, 1, none⟩)) | 2 => (vF = .int .i64 (r2.p : Int)) | 3 => (vF = .pointer (some ⟨q5, 2, none⟩)) | 4 => (vF = .int .i64 r2.co) | 6 => (vF = .int .i64 (r2.p : Int)) | 7 => (vF = .int .i64 r2.co) | _ => True) (fun _ _ _ _ => True) (by kernel_rfl) (by kernel_rfl) ⟨KX.of (Below.refl _ _).drew, ((Below.refl V10.heap.size V10).drew.block q2 (lt_of_block Z2.out)).trans Z2.out⟩ (fun _ _ _ hR hT => ⟨hR.1.trans hT.1, hT.2⟩) ?_ ?_ ?_
    ·
     intro kF hkF iF hiF hne hdd hanc hdan vF wF1 wF2 h hT
     rcases (by omega : kF = 0 ∨ kF = 1 ∨ kF = 2 ∨ kF = 3 ∨ kF = 4 ∨ kF = 5 ∨ kF = 6 ∨ kF = 7) with rfl | rfl | rfl | rfl | rfl | rfl | rfl | rfl
     all_goals exact h
    ·
     generalize hAF : fillOf _ _ _ = AF
     replace hAF := fun x => congrFun hAF x
     simp only [List.take_succ_cons, List.take_zero, fillOf, Act.put, List.setIfInBounds_toArray, List.set_cons_zero, List.set_cons_succ, Nat.reduceAdd, Nat.zero_add] at hAF
     refine FlowAll.cons ?_ (FlowAll.cons ?_ (FlowAll.cons ?_ (FlowAll.cons ?_ (FlowAll.cons ?_ (FlowAll.cons ?_ (FlowAll.cons ?_ (FlowAll.cons ?_ FlowAll.nil)))))))
     all_goals
      intro xF wz hR hd K hK
      simp only [← hAF, Act.put, List.setIfInBounds_toArray, List.set_cons_zero, List.set_cons_succ] at hK ⊢
      clear hAF
      try simp only [Nat.zero_add] at hK ⊢
      try simp only [Nat.reduceAdd] at hK ⊢
     ·
      clear hd
      rw [if_pos (by rfl)]
      go_simp
      exact hK.out _ _ ⟨KX.refl, hR.2⟩ rfl (fun _ _ _ => ⟨trivial, trivial⟩)
     ·
      clear hd
      rw [if_pos (by rfl)]
      go_simp
      exact hK.out _ _ ⟨KX.refl, hR.2⟩ rfl (fun _ _ _ => ⟨trivial, trivial⟩)
     ·
      have dd1 : (xF 1 = .pointer (some ⟨q5, 1, none⟩)) := hd 1 (by kernel_rfl)
      clear hd
      generalize xF 1 = yy1 at *
      obtain rfl := dd1
      obtain ⟨c0, c1, c2⟩ := box3 ((hR.1.2.2 q5 (lt_of_block Y5.out) N52.out).trans Y5.out)
      rw [if_pos (by rfl)]
      go_simp
      exact hK.out _ _ ⟨KX.refl, hR.2⟩ rfl (fun _ _ _ => ⟨trivial, trivial⟩)
     ·
      clear hd
      rw [if_pos (by rfl)]
      go_simp
      exact hK.out _ _ ⟨KX.refl, hR.2⟩ rfl (fun _ _ _ => ⟨trivial, trivial⟩)
     ·
      have dd3 : (xF 3 = .pointer (some ⟨q5, 2, none⟩)) := hd 3 (by kernel_rfl)
      clear hd
      generalize xF 3 = yy3 at *
      obtain rfl := dd3
      obtain ⟨c0, c1, c2⟩ := box3 ((hR.1.2.2 q5 (lt_of_block Y5.out) N52.out).trans Y5.out)
      rw [if_pos (by rfl)]
      go_simp
      exact hK.out _ _ ⟨KX.refl, hR.2⟩ rfl (fun _ _ _ => ⟨trivial, trivial⟩)
     ·
      have dd0 : (xF 0 = .agg #[.int .i64 0, .int .u64 0, .int .u64 0, .int .u64 0, .int .u64 0, .slice none 0 0, .int .i64 0, .int .i64 0]) := hd 0 (by kernel_rfl)
      clear hd
      generalize xF 0 = yy0 at *
      obtain rfl := dd0
      rw [if_pos (by rfl)]
      refine wp_store_row 28 (.tmp 2) (.tmp 34) rfl q2 #[.int .i64 0, .int .u64 0, .int .u64 0, .int .u64 0, .int .u64 0, .slice none 0 0, .int .i64 0, .int .i64 0] rfl rfl 28 _ hR.2 rsize rfl (by simp [Value.oneCell']) ?_
      exact hK.out undef _ ⟨KX.row, setRow_heap _ _ _ _ _ _ hR.2⟩ trivial (fun _ _ _ => ⟨trivial, trivial⟩)
     ·
      have dd2 : (xF 2 = .int .i64 (r2.p : Int)) := hd 2 (by kernel_rfl)
      clear hd
      generalize xF 2 = yy2 at *
      obtain rfl := dd2
      rw [if_pos (by rfl)]
      go_simp
      exact hK.out _ _ ⟨KX.refl, hR.2⟩ rfl (fun _ _ _ => ⟨trivial, trivial⟩)
     ·
      have dd4 : (xF 4 = .int .i64 r2.co) := hd 4 (by kernel_rfl)
      clear hd
      generalize xF 4 = yy4 at *
      obtain rfl := dd4
      rw [if_pos (by rfl)]
      go_simp
      exact hK.out _ _ ⟨KX.refl, hR.2⟩ rfl (fun _ _ _ => ⟨trivial, trivial⟩)
    intro xF wz hR hF hP
    have dd6 : (xF 6 = .int .i64 (r2.p : Int)) := hF 6 (by omega) (by decide)
    have dd7 : (xF 7 = .int .i64 r2.co) := hF 7 (by omega) (by decide)
    have bb := (L10.out.1.turn (q := q2) 0 rfl hR.1 hR.2).1
    obtain ⟨m0, m1, m2, m3, m4, m5, m6, m7⟩ := box8 hR.2
    clear hP hF hR
    simp only [List.take_succ_cons, List.take_zero, List.drop_succ_cons, List.drop_zero, fillOf, Act.put, List.setIfInBounds_toArray, List.set_cons_zero, List.set_cons_succ, Nat.reduceAdd, Nat.zero_add]
    try generalize xF 0 = yy0 at *
    try generalize xF 1 = yy1 at *
    try generalize xF 2 = yy2 at *
    try generalize xF 3 = yy3 at *
    try generalize xF 4 = yy4 at *
    try generalize xF 5 = yy5 at *
    try generalize xF 6 = yy6 at *
    try generalize xF 7 = yy7 at *
    clear xF
    obtain rfl := dd6
    obtain rfl := dd7
    go_wp2_with fail
    refine bodyPost_ret (v := .tuple #[.agg #[.int .i64 0, .int .u64 0, .int .u64 0, .int .u64 0, .int .u64 0, .slice none 0 0, .int .i64 0, .int .i64 0], .int .i64 (r2.p : Int), .int .i64 r2.co]) (by simp [results, Try.results9, go_sem, m0, m1, m2, m3, m4, m5, m6, m7]) rfl ?_
    exact PrA.zero HV.out bb
   ·
    have HV : Hid (m = (x, 0, 0)) := by show _ = _; rw [HM2.out, if_neg (show ¬ (r1.co = 0 ∧ r1.p < S.size) from fun h => gp h.2), if_neg (show ¬ r1.co ≠ 0 from fun h => h hc0)]
    have jp : ¬ (r1.p : Int) < (S.size : Int) := by omega
    have jp2 : ¬ r1.p < S.size := gp
    have j2 : (r1.co != 0) = false := by rw [hc0]; rfl
    clear gc hc0 HM2
    obtain ⟨q5, hq5⟩ : ∃ x, x = V3.heap.size := ⟨_, rfl⟩
    have L4 := Lib.hid (L3.out.add (q := q5) 48 #[.string S, .int .i64 ((r1).p : Int), .int .i64 (r1).co] hq5)
    obtain ⟨q6, hq6⟩ : ∃ x, x = V3.heap.size + 1 := ⟨_, rfl⟩
    have L5 := Lib.hid (L4.out.add (q := q6) 28 #[.int .i64 x.k, .int .u64 x.cl.a, .int .u64 x.cl.b, .int .u64 x.cl.c, .int .u64 x.cl.d, .slice ko3 kn3 kc3, .int .i64 x.mn, .int .i64 x.mx] (by simp only [World.size_alloc]; exact hq6))
    have GP := Lib.hid gp
    clear gp
    have z6 := L5.out.at (q := q2) 0 rfl
    have L6 := Lib.hid (L5.out.row (q := q2) 0 rfl #[.int .i64 x.k, .int .u64 x.cl.a, .int .u64 x.cl.b, .int .u64 x.cl.c, .int .u64 x.cl.d, .slice ko3 kn3 kc3, .int .i64 x.mn, .int .i64 x.mx])
    go_wp2_with (refine stT 2 rfl rfl rfl rfl z6 ?_)
    obtain ⟨V7, hV7, L7⟩ := L6.out.nm
    replace L7 := Lib.hid L7; replace hV7 := Lib.hid hV7
    rw [← hV7.out]
    clear z6
    obtain ⟨m0, m1, m2, m3, m4, m5, m6, m7⟩ := box8 (L7.out.at (q := q2) 0 rfl)
    refine bodyPost_ret (v := .tuple #[.agg #[.int .i64 x.k, .int .u64 x.cl.a, .int .u64 x.cl.b, .int .u64 x.cl.c, .int .u64 x.cl.d, .slice ko3 kn3 kc3, .int .i64 x.mn, .int .i64 x.mx], .int .i64 0, .int .i64 0]) (by simp [results, Try.results9, go_sem, m0, m1, m2, m3, m4, m5, m6, m7]) rfl ?_
    exact PrA.of (c := [.int .i64 x.k, .int .u64 x.cl.a, .int .u64 x.cl.b, .int .u64 x.cl.c, .int .u64 x.cl.d, .slice ko3 kn3 kc3, .int .i64 x.mn, .int .i64 x.mx]) HV.out L7.out.2.fre L7.out.1.1
end Go.Proofs.Ytbccejlemhgioaa
namespace Go.Proofs.Ytbccejlemhgioaa
open Go Go.RowKit Go.ChangeShapes cl rx
open rf
set_option maxHeartbeats 6400000 in
set_option maxRecDepth 100000 in
theorem rf_bounds (q : Nat) (S : ByteArray) (dp : Int) (t : T) (w : World) (h : RdT q S dp t w) (hS : S.size ≤ 60) (hp : t.p ≤ S.size) : Calls Try.prog 50 #[.pointer (some ⟨q, 0, none⟩)] w (fun e w' => e = .returned (.tuple #[.int .i64 (rf.bounds (kit.bytes S) t).1.1, .int .i64 (rf.bounds (kit.bytes S) t).1.2.1, .bool (rf.bounds (kit.bytes S) t).1.2.2]) ∧ RKT q S dp (rf.bounds (kit.bytes S) t).2 w w') := by
 have hlen : (kit.bytes S).length = S.size := by simp [kit.bytes]
 have HN : Hid (∀ (t : T) (W : World), t.p ≤ S.size → RdT q S dp t W → Calls Try.prog 61 #[.pointer (some ⟨q, 0, none⟩)] W (fun e w' => e = .returned (.tuple #[.int .i64 (rf.number (kit.bytes S) t).1.1, .bool (rf.number (kit.bytes S) t).1.2]) ∧ RKT q S dp (rf.number (kit.bytes S) t).2 W w')) := fun t W hp hW => rf_number q S dp t W hW hS hp
 have HM : Hid (∀ (c : Nat) (t : T) (W : World), RdT q S dp t W → Calls Try.prog 27 #[.pointer (some ⟨q, 0, none⟩), .int .u8 (c : Int)] W (fun e w' => e = .returned (.bool (rf.meets (kit.bytes S) c t).1) ∧ RKT q S dp (rf.meets (kit.bytes S) c t).2 W w')) := fun c t W hW => rf_meets q S dp t c W hW hS
 obtain ⟨r, hr⟩ : ∃ r, r = rf.bounds (kit.bytes S) t := ⟨_, rfl⟩
 rw [← hr]
 have R0 := Lib.hid h
 have K0 : Hid (KX q w w) := KX.refl
 clear h
 obtain ⟨a1, o1, t1, hn1⟩ : ∃ a o t', rf.number (kit.bytes S) t = ((a, o), t') := ⟨_, _, _, rfl⟩
 have HN1 : Hid (∀ W, RdT q S dp t W → Calls Try.prog 61 #[.pointer (some ⟨q, 0, none⟩)] W (fun e w' => e = .returned (.tuple #[.int .i64 a1, .bool o1]) ∧ RKT q S dp t1 W w')) := fun W hW => by have h := HN.out t W hp hW; rw [hn1] at h; exact h
 have hp1 : t1.p ≤ S.size := by
  have h := (number_pr (s := kit.bytes S) (t := t)).2 (by omega)
  rw [hn1] at h; simp only at h; omega
 cases o1 with
 | false =>
  have HV : Hid (r = ((0, 0, false), t1)) := by show _ = _; rw [hr]; simp [rf.bounds, hn1]
  clear hr
  go_enter Try.func50, Try.ntmps50
  go_wp2_with fail
  (with_reducible refine (HN1.out _ R0.out).mono ?_)
  rintro e4 w4 ⟨rfl, r4, k4⟩
  have R4 := Lib.hid r4
  have K4 := Lib.hid (K0.out.trans k4)
  clear r4 k4
  go_wp2
  refine bodyPost_ret (v := .tuple #[.int .i64 0, .int .i64 0, .bool false]) (by simp [results, Try.results50, go_sem]) rfl ⟨by rw [HV.out], by rw [HV.out]; exact R4.out, K4.out⟩
 | true =>
  obtain ⟨b2, t2, hm2⟩ : ∃ b t', rf.meets (kit.bytes S) 125 t1 = (b, t') := ⟨_, _, rfl⟩
  have HM2 : Hid (∀ W, RdT q S dp t1 W → Calls Try.prog 27 #[.pointer (some ⟨q, 0, none⟩), .int .u8 125] W (fun e w' => e = .returned (.bool b2) ∧ RKT q S dp t2 W w')) := fun W hW => by have h := HM.out 125 t1 W hW; rw [hm2] at h; exact h
  cases b2 with
  | true =>
   have HV : Hid (r = (((a1 : Int), (a1 : Int), true), t2)) := by show _ = _; rw [hr]; simp [rf.bounds, hn1, hm2]
   clear hr
   go_enter Try.func50, Try.ntmps50
   go_wp2_with fail
   (with_reducible refine (HN1.out _ R0.out).mono ?_)
   rintro e4 w4 ⟨rfl, r4, k4⟩
   have R4 := Lib.hid r4
   have K4 := Lib.hid (K0.out.trans k4)
   clear r4 k4
   go_wp2_with fail
   (with_reducible refine (HM2.out _ R4.out).mono ?_)
   rintro e5 w5 ⟨rfl, r5, k5⟩
   have R5 := Lib.hid r5
   have K5 := Lib.hid (K4.out.trans k5)
   clear r5 k5
   go_wp2
   refine bodyPost_ret (v := .tuple #[.int .i64 a1, .int .i64 a1, .bool true]) (by simp [results, Try.results50, go_sem]) rfl ⟨by rw [HV.out], by rw [HV.out]; exact R5.out, K5.out⟩
  | false =>
   have ht2 : t2 = t1 := by
    have h := hm2
    unfold rf.meets at h
    split at h
    ·
     cases h
    ·
     simp only [Prod.mk.injEq] at h; exact h.2.symm
   subst ht2
   obtain ⟨b3, t3, hm3⟩ : ∃ b t', rf.meets (kit.bytes S) 44 t2 = (b, t') := ⟨_, _, rfl⟩
   have HM3 : Hid (∀ W, RdT q S dp t2 W → Calls Try.prog 27 #[.pointer (some ⟨q, 0, none⟩), .int .u8 44] W (fun e w' => e = .returned (.bool b3) ∧ RKT q S dp t3 W w')) := fun W hW => by have h := HM.out 44 t2 W hW; rw [hm3] at h; exact h
   cases b3 with
   | false =>
    have ht3 : t3 = t2 := by
     have h := hm3
     unfold rf.meets at h
     split at h
     ·
      cases h
     ·
      simp only [Prod.mk.injEq] at h; exact h.2.symm
    subst ht3
    have HV : Hid (r = ((0, 0, false), t3)) := by show _ = _; rw [hr]; simp [rf.bounds, hn1, hm2, hm3]
    clear hr
    go_enter Try.func50, Try.ntmps50
    go_wp2_with fail
    (with_reducible refine (HN1.out _ R0.out).mono ?_)
    rintro e4 w4 ⟨rfl, r4, k4⟩
    have R4 := Lib.hid r4
    have K4 := Lib.hid (K0.out.trans k4)
    clear r4 k4
    go_wp2_with fail
    (with_reducible refine (HM2.out _ R4.out).mono ?_)
    rintro e5 w5 ⟨rfl, r5, k5⟩
    have R5 := Lib.hid r5
    have K5 := Lib.hid (K4.out.trans k5)
    clear r5 k5
    go_wp2_with fail
    (with_reducible refine (HM3.out _ R5.out).mono ?_)
    rintro e6 w6 ⟨rfl, r6, k6⟩
    have R6 := Lib.hid r6
    have K6 := Lib.hid (K5.out.trans k6)
    clear r6 k6
    go_wp2
    refine bodyPost_ret (v := .tuple #[.int .i64 0, .int .i64 0, .bool false]) (by simp [results, Try.results50, go_sem]) rfl ⟨by rw [HV.out], by rw [HV.out]; exact R6.out, K6.out⟩
   | true =>
    have hp3 : t3.p ≤ S.size := by
     have h := (meets_pr (s := kit.bytes S) (t := t2) 44).2 (by omega)
     rw [hm3] at h; simp only at h; omega
    obtain ⟨b4, t4, hm4⟩ : ∃ b t', rf.meets (kit.bytes S) 125 t3 = (b, t') := ⟨_, _, rfl⟩
    have HM4 : Hid (∀ W, RdT q S dp t3 W → Calls Try.prog 27 #[.pointer (some ⟨q, 0, none⟩), .int .u8 125] W (fun e w' => e = .returned (.bool b4) ∧ RKT q S dp t4 W w')) := fun W hW => by have h := HM.out 125 t3 W hW; rw [hm4] at h; exact h
    cases b4 with
    | true =>
     have HV : Hid (r = (((a1 : Int), -1, true), t4)) := by show _ = _; rw [hr]; simp [rf.bounds, hn1, hm2, hm3, hm4]
     clear hr
     go_enter Try.func50, Try.ntmps50
     go_wp2_with fail
     (with_reducible refine (HN1.out _ R0.out).mono ?_)
     rintro e4 w4 ⟨rfl, r4, k4⟩
     have R4 := Lib.hid r4
     have K4 := Lib.hid (K0.out.trans k4)
     clear r4 k4
     go_wp2_with fail
     (with_reducible refine (HM2.out _ R4.out).mono ?_)
     rintro e5 w5 ⟨rfl, r5, k5⟩
     have R5 := Lib.hid r5
     have K5 := Lib.hid (K4.out.trans k5)
     clear r5 k5
     go_wp2_with fail
     (with_reducible refine (HM3.out _ R5.out).mono ?_)
     rintro e6 w6 ⟨rfl, r6, k6⟩
     have R6 := Lib.hid r6
     have K6 := Lib.hid (K5.out.trans k6)
     clear r6 k6
     go_wp2_with fail
     (with_reducible refine (HM4.out _ R6.out).mono ?_)
     rintro e7 w7 ⟨rfl, r7, k7⟩
     have R7 := Lib.hid r7
     have K7 := Lib.hid (K6.out.trans k7)
     clear r7 k7
     go_wp2
     refine bodyPost_ret (v := .tuple #[.int .i64 a1, .int .i64 (-1), .bool true]) (by simp [results, Try.results50, go_sem]) rfl ⟨by rw [HV.out], by rw [HV.out]; exact R7.out, K7.out⟩
    | false =>
     have ht4 : t4 = t3 := by
      have h := hm4
      unfold rf.meets at h
      split at h
      ·
       cases h
      ·
       simp only [Prod.mk.injEq] at h; exact h.2.symm
     subst ht4
     obtain ⟨a5, o5, t5, hn5⟩ : ∃ a o t', rf.number (kit.bytes S) t4 = ((a, o), t') := ⟨_, _, _, rfl⟩
     have HN5 : Hid (∀ W, RdT q S dp t4 W → Calls Try.prog 61 #[.pointer (some ⟨q, 0, none⟩)] W (fun e w' => e = .returned (.tuple #[.int .i64 a5, .bool o5]) ∧ RKT q S dp t5 W w')) := fun W hW => by have h := HN.out t4 W hp3 hW; rw [hn5] at h; exact h
     have hp5 : t5.p ≤ S.size := by
      have h := (number_pr (s := kit.bytes S) (t := t4)).2 (by omega)
      rw [hn5] at h; simp only at h; omega
     cases o5 with
     | false =>
      have HV : Hid (r = ((0, 0, false), t5)) := by show _ = _; rw [hr]; simp [rf.bounds, hn1, hm2, hm3, hm4, hn5]
      clear hr
      go_enter Try.func50, Try.ntmps50
      go_wp2_with fail
      (with_reducible refine (HN1.out _ R0.out).mono ?_)
      rintro e4 w4 ⟨rfl, r4, k4⟩
      have R4 := Lib.hid r4
      have K4 := Lib.hid (K0.out.trans k4)
      clear r4 k4
      go_wp2_with fail
      (with_reducible refine (HM2.out _ R4.out).mono ?_)
      rintro e5 w5 ⟨rfl, r5, k5⟩
      have R5 := Lib.hid r5
      have K5 := Lib.hid (K4.out.trans k5)
      clear r5 k5
      go_wp2_with fail
      (with_reducible refine (HM3.out _ R5.out).mono ?_)
      rintro e6 w6 ⟨rfl, r6, k6⟩
      have R6 := Lib.hid r6
      have K6 := Lib.hid (K5.out.trans k6)
      clear r6 k6
      go_wp2_with fail
      (with_reducible refine (HM4.out _ R6.out).mono ?_)
      rintro e7 w7 ⟨rfl, r7, k7⟩
      have R7 := Lib.hid r7
      have K7 := Lib.hid (K6.out.trans k7)
      clear r7 k7
      go_wp2_with fail
      (with_reducible refine (HN5.out _ R7.out).mono ?_)
      rintro e8 w8 ⟨rfl, r8, k8⟩
      have R8 := Lib.hid r8
      have K8 := Lib.hid (K7.out.trans k8)
      clear r8 k8
      go_wp2
      refine bodyPost_ret (v := .tuple #[.int .i64 0, .int .i64 0, .bool false]) (by simp [results, Try.results50, go_sem]) rfl ⟨by rw [HV.out], by rw [HV.out]; exact R8.out, K8.out⟩
     | true =>
      obtain ⟨b6, t6, hm6⟩ : ∃ b t', rf.meets (kit.bytes S) 125 t5 = (b, t') := ⟨_, _, rfl⟩
      have HM6 : Hid (∀ W, RdT q S dp t5 W → Calls Try.prog 27 #[.pointer (some ⟨q, 0, none⟩), .int .u8 125] W (fun e w' => e = .returned (.bool b6) ∧ RKT q S dp t6 W w')) := fun W hW => by have h := HM.out 125 t5 W hW; rw [hm6] at h; exact h
      cases b6 with
      | false =>
       have HV : Hid (r = ((0, 0, false), t6)) := by show _ = _; rw [hr]; simp [rf.bounds, hn1, hm2, hm3, hm4, hn5, hm6]
       clear hr
       go_enter Try.func50, Try.ntmps50
       go_wp2_with fail
       (with_reducible refine (HN1.out _ R0.out).mono ?_)
       rintro e4 w4 ⟨rfl, r4, k4⟩
       have R4 := Lib.hid r4
       have K4 := Lib.hid (K0.out.trans k4)
       clear r4 k4
       go_wp2_with fail
       (with_reducible refine (HM2.out _ R4.out).mono ?_)
       rintro e5 w5 ⟨rfl, r5, k5⟩
       have R5 := Lib.hid r5
       have K5 := Lib.hid (K4.out.trans k5)
       clear r5 k5
       go_wp2_with fail
       (with_reducible refine (HM3.out _ R5.out).mono ?_)
       rintro e6 w6 ⟨rfl, r6, k6⟩
       have R6 := Lib.hid r6
       have K6 := Lib.hid (K5.out.trans k6)
       clear r6 k6
       go_wp2_with fail
       (with_reducible refine (HM4.out _ R6.out).mono ?_)
       rintro e7 w7 ⟨rfl, r7, k7⟩
       have R7 := Lib.hid r7
       have K7 := Lib.hid (K6.out.trans k7)
       clear r7 k7
       go_wp2_with fail
       (with_reducible refine (HN5.out _ R7.out).mono ?_)
       rintro e8 w8 ⟨rfl, r8, k8⟩
       have R8 := Lib.hid r8
       have K8 := Lib.hid (K7.out.trans k8)
       clear r8 k8
       go_wp2_with fail
       (with_reducible refine (HM6.out _ R8.out).mono ?_)
       rintro e9 w9 ⟨rfl, r9, k9⟩
       have R9 := Lib.hid r9
       have K9 := Lib.hid (K8.out.trans k9)
       clear r9 k9
       go_wp2
       refine bodyPost_ret (v := .tuple #[.int .i64 0, .int .i64 0, .bool false]) (by simp [results, Try.results50, go_sem]) rfl ⟨by rw [HV.out], by rw [HV.out]; exact R9.out, K9.out⟩
      | true =>
       by_cases hlt : a5 < a1
       ·
        have hli : (a5 : Int) < (a1 : Int) := by omega
        have HV : Hid (r = ((0, 0, false), t6)) := by show _ = _; rw [hr]; simp [rf.bounds, hn1, hm2, hm3, hm4, hn5, hm6, hlt]
        clear hr hlt
        go_enter Try.func50, Try.ntmps50
        go_wp2_with fail
        (with_reducible refine (HN1.out _ R0.out).mono ?_)
        rintro e4 w4 ⟨rfl, r4, k4⟩
        have R4 := Lib.hid r4
        have K4 := Lib.hid (K0.out.trans k4)
        clear r4 k4
        go_wp2_with fail
        (with_reducible refine (HM2.out _ R4.out).mono ?_)
        rintro e5 w5 ⟨rfl, r5, k5⟩
        have R5 := Lib.hid r5
        have K5 := Lib.hid (K4.out.trans k5)
        clear r5 k5
        go_wp2_with fail
        (with_reducible refine (HM3.out _ R5.out).mono ?_)
        rintro e6 w6 ⟨rfl, r6, k6⟩
        have R6 := Lib.hid r6
        have K6 := Lib.hid (K5.out.trans k6)
        clear r6 k6
        go_wp2_with fail
        (with_reducible refine (HM4.out _ R6.out).mono ?_)
        rintro e7 w7 ⟨rfl, r7, k7⟩
        have R7 := Lib.hid r7
        have K7 := Lib.hid (K6.out.trans k7)
        clear r7 k7
        go_wp2_with fail
        (with_reducible refine (HN5.out _ R7.out).mono ?_)
        rintro e8 w8 ⟨rfl, r8, k8⟩
        have R8 := Lib.hid r8
        have K8 := Lib.hid (K7.out.trans k8)
        clear r8 k8
        go_wp2_with fail
        (with_reducible refine (HM6.out _ R8.out).mono ?_)
        rintro e9 w9 ⟨rfl, r9, k9⟩
        have R9 := Lib.hid r9
        have K9 := Lib.hid (K8.out.trans k9)
        clear r9 k9
        go_wp2
        refine bodyPost_ret (v := .tuple #[.int .i64 0, .int .i64 0, .bool false]) (by simp [results, Try.results50, go_sem]) rfl ⟨by rw [HV.out], by rw [HV.out]; exact R9.out, K9.out⟩
       ·
        have hli : ¬ (a5 : Int) < (a1 : Int) := by omega
        have HV : Hid (r = (((a1 : Int), (a5 : Int), true), t6)) := by show _ = _; rw [hr]; simp [rf.bounds, hn1, hm2, hm3, hm4, hn5, hm6, hlt]
        clear hr hlt
        go_enter Try.func50, Try.ntmps50
        go_wp2_with fail
        (with_reducible refine (HN1.out _ R0.out).mono ?_)
        rintro e4 w4 ⟨rfl, r4, k4⟩
        have R4 := Lib.hid r4
        have K4 := Lib.hid (K0.out.trans k4)
        clear r4 k4
        go_wp2_with fail
        (with_reducible refine (HM2.out _ R4.out).mono ?_)
        rintro e5 w5 ⟨rfl, r5, k5⟩
        have R5 := Lib.hid r5
        have K5 := Lib.hid (K4.out.trans k5)
        clear r5 k5
        go_wp2_with fail
        (with_reducible refine (HM3.out _ R5.out).mono ?_)
        rintro e6 w6 ⟨rfl, r6, k6⟩
        have R6 := Lib.hid r6
        have K6 := Lib.hid (K5.out.trans k6)
        clear r6 k6
        go_wp2_with fail
        (with_reducible refine (HM4.out _ R6.out).mono ?_)
        rintro e7 w7 ⟨rfl, r7, k7⟩
        have R7 := Lib.hid r7
        have K7 := Lib.hid (K6.out.trans k7)
        clear r7 k7
        go_wp2_with fail
        (with_reducible refine (HN5.out _ R7.out).mono ?_)
        rintro e8 w8 ⟨rfl, r8, k8⟩
        have R8 := Lib.hid r8
        have K8 := Lib.hid (K7.out.trans k8)
        clear r8 k8
        go_wp2_with fail
        (with_reducible refine (HM6.out _ R8.out).mono ?_)
        rintro e9 w9 ⟨rfl, r9, k9⟩
        have R9 := Lib.hid r9
        have K9 := Lib.hid (K8.out.trans k9)
        clear r9 k9
        go_wp2
        refine bodyPost_ret (v := .tuple #[.int .i64 a1, .int .i64 a5, .bool true]) (by simp [results, Try.results50, go_sem]) rfl ⟨by rw [HV.out], by rw [HV.out]; exact R9.out, K9.out⟩
end Go.Proofs.Ytbccejlemhgioaa
