/- texts put together: OrsAdd. -/
import Derived.Test.YtonknpdalemjkaaGreatDe11
import Derived.Test.YtonknpdalemjkaaGreatDe15
import Derived.Test.YtonknpdalemjkaaGreatDe16
open List (setIfInBounds_toArray set_cons_zero set_cons_succ take_succ_cons take_zero drop_succ_cons drop_zero)
namespace Go.Proofs.YtonknpdalemjkaaGreat
open Go Go.RowKit Go.ChangeShapes cl
theorem wp_of_list1 {P : Program} {Q : Exit → Act → World → Prop} {o : Oper} {a : Act} {w : World} {K : Act → World → Prop} (h : ∀ Q' : Exit → Act → World → Prop, (∀ a w, K a w → wpList P #[] Q' [] a w) → wpList P #[] Q' [{ o with guard := none }] a w) : o.wp P a w K Q := by
 have := step_of_list (P := P) (ops := #[]) (Q := Q) (o := { o with guard := none }) (a := a) (w := w) (K := K) (E := True) (by simp [Region.wanted]) h
 rw [if_pos (by simp [Region.wanted])] at this
 exact this
theorem boxc' {w : World} {b : Nat} {arr : Array Value} {t : TypeId} (h : w.heap[b]? = some (.cells arr t (0, 0))) (k : Nat) (u : Value) (hk : arr[k]? = some u) : w.cell? ⟨b, k, none⟩ = some u := by
 simp [World.cell?, h, hk]
theorem own_ne {w : World} {B B' k k' n n' : Nat} {e e' : TypeId} {v v' : Value} {xs xs' : List Value} (h : w.ownsRow B e k v n xs) (h' : w.ownsRow B' e' k' v' n' xs') (hne : e ≠ e') : v.ownBlock = none ∨ v.ownBlock ≠ v'.ownBlock := by
 rcases h.2 with ⟨rfl, _⟩ | ⟨g, cap, cur, rfl, _, hg, _⟩
 ·
  exact Or.inl rfl
 ·
  rcases h'.2 with ⟨rfl, _⟩ | ⟨g', cap', cur', rfl, _, hg', _⟩
  ·
   exact Or.inr (fun e => by cases e)
  ·
   refine Or.inr fun e => ?_
   have e : some g = some g' := e
   cases e
   rw [hg] at hg'
   simp only [Option.some.injEq, Obj.cells.injEq] at hg'
   exact hne hg'.2.1
theorem sl_blk4 {w : World} {g : Nat} {T : TypeId} {a0 a1 a2 a3 : Option Addr} {n0 c0 n1 c1 n2 c2 n3 c3 : Nat} (h : w.heap[g]? = some (.cells #[.slice a0 n0 c0, .slice a1 n1 c1, .slice a2 n2 c2, .slice a3 n3 c3] T (0, 0))) : SlBlk w g :=
 ⟨_, _, h, fun k u hu => by
  rw [← Array.getElem?_toList] at hu
  have hm := List.mem_of_getElem? hu
  simp only [List.mem_cons, List.not_mem_nil, or_false] at hm
  rcases hm with rfl | rfl | rfl | rfl <;> exact ⟨_, _, _, rfl⟩⟩
theorem sl_blk3 {w : World} {g : Nat} {T : TypeId} {a0 a1 a2 : Option Addr} {n0 c0 n1 c1 n2 c2 : Nat} (h : w.heap[g]? = some (.cells #[.slice a0 n0 c0, .slice a1 n1 c1, .slice a2 n2 c2] T (0, 0))) : SlBlk w g :=
 ⟨_, _, h, fun k u hu => by
  rw [← Array.getElem?_toList] at hu
  have hm := List.mem_of_getElem? hu
  simp only [List.mem_cons, List.not_mem_nil, or_false] at hm
  rcases hm with rfl | rfl | rfl <;> exact ⟨_, _, _, rfl⟩⟩
theorem set1_grown {w : World} {g k : Nat} (u : Value) : w.grownBy (w.setCell ⟨g, k, none⟩ u) (some g) := by
 refine ⟨rfl, rfl, rfl, by rw [World.size_setCell]; exact Nat.le_refl _, fun i hi hne => Below.heap_setCell _ _ _ _ (fun e => hne (by rw [e]))⟩
theorem set3_grown {g : Nat} {a b c : Value} (w : World) : w.grownBy (((w.setCell ⟨g, 0, none⟩ a).setCell ⟨g, 1, none⟩ b).setCell ⟨g, 2, none⟩ c) (some g) := grown_trans (grown_trans (set1_grown a) (set1_grown b)) (set1_grown c)
theorem Dots.off {W ww : World} {g : Nat} {v : Value} {l : List Dot} (h : Dots W W.heap.size v l) (hg : SlBlk W g) (hw : W.grownBy ww (some g)) : Dots ww ww.heap.size v l := by
 obtain ⟨h0, ao, cap, rfl, h1, h3, h4⟩ := h
 refine ⟨h0, ao, cap, rfl, h1, h3, fun hp => ?_⟩
 obtain ⟨b, off, rfl, hB, hc⟩ := h4 hp
 have hne : b ≠ g := fun e => by
  subst e
  obtain ⟨_, _, _, e⟩ := hg.no (hc 0 _ (by have := (dcells_get l 0 hp).1; simpa using this))
  cases e
 have hk := hw.block b hB (fun e => hne (Option.some.inj e))
 exact ⟨b, off, rfl, Nat.lt_of_lt_of_le hB hw.size, fun j u hj => by rw [← hc j u hj]; simp [World.cell?, hk]⟩
theorem Ents.off {W ww : World} {g : Nat} {v : Value} {l : List Ent} (h : Ents W W.heap.size v l) (hg : SlBlk W g) (hw : W.grownBy ww (some g)) : Ents ww ww.heap.size v l := by
 obtain ⟨h0, ao, cap, rfl, h1, h3, h4⟩ := h
 refine ⟨h0, ao, cap, rfl, h1, h3, fun hp => ?_⟩
 obtain ⟨b, off, rfl, hB, hc⟩ := h4 hp
 have hne : b ≠ g := fun e => by
  subst e
  obtain ⟨_, _, _, e⟩ := hg.no (hc 0 _ (by have := (ecells_get l 0 hp).1; simpa using this))
  cases e
 have hk := hw.block b hB (fun e => hne (Option.some.inj e))
 exact ⟨b, off, rfl, Nat.lt_of_lt_of_le hB hw.size, fun j u hj => by rw [← hc j u hj]; simp [World.cell?, hk]⟩
theorem CtxAt.off {W ww : World} {g : Nat} {v : Value} {l : dm.Ctx} (h : CtxAt W W.heap.size v l) (hg : SlBlk W g) (hw : W.grownBy ww (some g)) : CtxAt ww ww.heap.size v l := by
 obtain ⟨v1, v2, rfl, h1, h2⟩ := h
 exact ⟨v1, v2, rfl, h1.off hg hw, h2.off hg hw⟩
theorem nodup_of {l : List Ent} (h : os.Up l) : (l.map Ent.d).Nodup := by
 refine List.pairwise_map.2 (h.imp fun {a b} hab e => ?_)
 rw [e] at hab
 exact dm.dless_irrefl _ hab
theorem nodup_add {l : List Ent} {c : dm.Ctx} {x : Ent} {p : Ent → Bool} (hr : RSet l c) (hn : ¬ dm.Knows c x.d) : ((staysOf p l ++ [x]).map Ent.d).Nodup := by
 rw [List.map_append, List.nodup_append]
 refine ⟨(nodup_of hr.up).sublist (List.Sublist.map _ List.filter_sublist), by simp, fun a ha b hb e => ?_⟩
 simp only [List.map_cons, List.map_nil, List.mem_singleton] at hb
 subst hb
 obtain ⟨y, hy, rfl⟩ := List.mem_map.1 ha
 have := hr.kn y (List.mem_filter.1 hy).1
 rw [e] at this
 exact hn this
def AddP (l : List Ent) (c : dm.Ctx) (x : Ent) (w : World) (e : Ending) (w' : World) : Prop :=
 ∃ (u0 u1 u2 t0 t1 t2 t3 : Value) (L' : List Ent) (c' dc : dm.Ctx), e = .returned (.tuple #[.agg #[u0, u1, u2], .agg #[t0, t1, t2, t3], .int .i64 0]) ∧ EntO w.heap.size w' u0 L' ∧ OwnC w.heap.size w' (.agg #[u1, u2]) c' ∧
  EntO w.heap.size w' t0 [x] ∧ DotO w.heap.size w' t1 [x.d] ∧ OwnC w.heap.size w' (.agg #[t2, t3]) dc ∧ L'.Perm (staysOf (fun y => decide (y.s = x.s)) l ++ [x]) ∧ os.Up L' ∧
  dm.Is c' (fun e => dm.Knows c e ∨ e = x.d) (c.2.length + 1) ∧ (∃ m, dm.Is dc (fun d => valid d = true ∧ d ∈ goneOf (fun y => decide (y.s = x.s)) l ++ [x.d]) m) ∧ Below w.heap.size w w'
set_option maxHeartbeats 12800000 in
set_option maxRecDepth 100000 in
theorem oadd_yes (l : List Ent) (c : dm.Ctx) (x : Ent) (ve v1 v2 : Value) (w : World) (h : Ents w w.heap.size ve l) (hc : CtxAt w w.heap.size (.agg #[v1, v2]) c) (hr : RSet l c) (hx : os.Fine x) (hn : ¬ dm.Knows c x.d) (hl : l.length ≤ 1000) (hcl : c.2.length ≤ 1000) (hm : MX w) :
  Calls Tryz.prog 53 #[.agg #[ve, v1, v2], eval' x] w (AddP l c x w) := by
 obtain ⟨n0, hn0⟩ : ∃ n, n = l.length := ⟨_, rfl⟩
 obtain ⟨ao, cap, rfl⟩ : ∃ ao cap, ve = .slice ao n0 cap := by
  obtain ⟨ao, cap, e, _⟩ := h.form
  exact ⟨ao, cap, by rw [hn0]; exact e⟩
 obtain ⟨s1, p1, c1, s2, p2, c2, e0, hp1, hp2⟩ := hc.form
 simp only [Value.agg.injEq, Array.mk.injEq, List.cons.injEq, and_true] at e0
 obtain ⟨rfl, rfl⟩ := e0
 clear hp1 hp2
 obtain ⟨WA, hWA⟩ : ∃ W, W = w.alloc (.cells #[.slice ao n0 cap, .slice s1 p1 c1, .slice s2 p2 c2] 27) := ⟨_, rfl⟩
 obtain ⟨WB, hWB⟩ : ∃ W, W = WA.alloc (.cells #[.string x.s, .int .i64 x.d.1, .int .i64 x.d.2, .int .i64 x.t, .slice none 0 0] 54) := ⟨_, rfl⟩
 obtain ⟨WC, hWC⟩ : ∃ W, W = WB.alloc (.cells #[.slice none 0 0, .slice none 0 0, .slice none 0 0] 27) := ⟨_, rfl⟩
 obtain ⟨W4, hW4⟩ : ∃ W, W = WC.alloc (.cells #[.slice none 0 0, .slice none 0 0, .slice none 0 0, .slice none 0 0] 29) := ⟨_, rfl⟩
 have sA : WA.heap.size = w.heap.size + 1 := by rw [hWA]; simp
 have sB : WB.heap.size = w.heap.size + 2 := by rw [hWB]; simp [sA]
 have sC : WC.heap.size = w.heap.size + 3 := by rw [hWC]; simp [sB]
 have bA : Below w.heap.size w WA := by rw [hWA]; exact below1
 have bB : Below WA.heap.size WA WB := by rw [hWB]; exact below1
 have bC : Below WB.heap.size WB WC := by rw [hWC]; exact below1
 have bD : Below WC.heap.size WC W4 := by rw [hW4]; exact below1
 have b3 : Below WB.heap.size WB W4 := bC.trans (bD.mono bC.size)
 have b2 : Below WA.heap.size WA W4 := bB.trans (b3.mono bB.size)
 have b4 : Below w.heap.size w W4 := bA.trans (b2.mono bA.size)
 have x0 : W4.heap[w.heap.size]? = some (.cells #[.slice ao n0 cap, .slice s1 p1 c1, .slice s2 p2 c2] 27) := (b2.block _ (by omega)).trans (by rw [hWA]; exact heap_alloc_new w _)
 have x1 : W4.heap[w.heap.size + 1]? = some (.cells #[.string x.s, .int .i64 x.d.1, .int .i64 x.d.2, .int .i64 x.t, .slice none 0 0] 54) := (b3.block _ (by omega)).trans (by rw [hWB, ← sA]; exact heap_alloc_new WA _)
 have x2 : W4.heap[w.heap.size + 2]? = some (.cells #[.slice none 0 0, .slice none 0 0, .slice none 0 0] 27) := (bD.block _ (by omega)).trans (by rw [hWC, ← sB]; exact heap_alloc_new WB _)
 have x3 : W4.heap[w.heap.size + 3]? = some (.cells #[.slice none 0 0, .slice none 0 0, .slice none 0 0, .slice none 0 0] 29) := by rw [hW4, ← sC]; exact heap_alloc_new WC _
 subst hWA hWB hWC
 have HW4 := Lib.hid hW4
 have X0 := Lib.hid x0
 have X1 := Lib.hid x1
 have X2 := Lib.hid x2
 have X3 := Lib.hid x3
 have HB4 := Lib.hid b4
 have HN0 := Lib.hid hn0
 have HE := Lib.hid (Cells.next h b4)
 have HC := Lib.hid (hc.next b4)
 have HC0 := Lib.hid hc
 have HRS := Lib.hid hr
 have HFX := Lib.hid hx
 have HNK := Lib.hid hn
 have HMX := Lib.hid (MX.next hm b4)
 have HTW : Hid (∀ W, Calls Tryz.prog 33 #[.agg #[.string x.s, .int .i64 x.d.1, .int .i64 x.d.2, .int .i64 x.t, .slice none 0 0]] W fun e w' => e = .returned (.agg #[.string x.s, .int .i64 x.d.1, .int .i64 x.d.2, .int .i64 x.t, .slice none 0 0]) ∧ Below W.heap.size W w') := fun W => twent_any x W
 clear h hc hr hx hn hm sA sB sC bA bB bC bD b3 b2 b4 x0 x1 x2 x3 hW4 hn0
 have HR := Lib.hid (oright_yes l c _ _ _ W4 HE.out HC.out HRS.out HMX.out)
 show Calls Tryz.prog 53 #[.agg #[.slice ao n0 cap, .slice s1 p1 c1, .slice s2 p2 c2], .agg #[.string x.s, .int .i64 x.d.1, .int .i64 x.d.2, .int .i64 x.t, .slice none 0 0]] w (AddP l c x w)
 have y0 := boxc X0.out 0 _ rfl
 go_enter Tryz.func53, Tryz.ntmps53
 go_wp2_with fail
 rw [← HW4.out]
 clear y0
 (with_reducible refine HR.out.mono ?_)
 rintro e w5 ⟨rfl, hb5⟩
 have HB5 := Lib.hid hb5
 have HMY := Lib.hid (may_yes x w5 HFX.out (MX.next HMX.out hb5))
 unfold eval' at HMY
 have y1 := (HB5.out.block _ (lt_of_block X1.out)).trans X1.out
 have e0 := boxc y1 0 _ rfl
 have e1 := boxc y1 1 _ rfl
 have e2 := boxc y1 2 _ rfl
 have e3 := boxc y1 3 _ rfl
 have e4 := boxc y1 4 _ rfl
 clear y1 hb5 HR
 go_wp2_with fail
 (with_reducible refine HMY.out.mono ?_)
 rintro e w6 ⟨rfl, hb6⟩
 have HB6 := Lib.hid (HB5.out.trans (hb6.mono HB5.out.size))
 have HHS : Hid (Calls Tryz.prog 27 #[.agg #[.slice s1 p1 c1, .slice s2 p2 c2], .agg #[.int .i64 x.d.1, .int .i64 x.d.2]] w6 (SaidD false w6)) := by
  have := has_any c x.d _ w6 (HC.out.next HB6.out)
  have hf : dm.hasF c x.d = false := by
   cases e : dm.hasF c x.d
   ·
    rfl
   ·
    exact absurd (dm.hasF_iff.1 e) HNK.out
  rwa [hf] at this
 have y1 := (HB6.out.block _ (lt_of_block X1.out)).trans X1.out
 have y0 := (HB6.out.block _ (lt_of_block X0.out)).trans X0.out
 have e1 := boxc y1 1 _ rfl
 have e2 := boxc y1 2 _ rfl
 have i1 := boxc y0 1 _ rfl
 have i2 := boxc y0 2 _ rfl
 clear y1 y0 hb6 HMY
 go_wp2_with fail
 (with_reducible refine HHS.out.mono ?_)
 rintro e w7 ⟨rfl, hb7⟩
 have HB7 := Lib.hid (HB6.out.trans (hb7.mono HB6.out.size))
 have y1 := (HB7.out.block _ (lt_of_block X1.out)).trans X1.out
 have y0 := (HB7.out.block _ (lt_of_block X0.out)).trans X0.out
 have HPT := Lib.hid (part_any 92 #[.pointer (some ⟨w.heap.size + 1, 0, none⟩)] (fun y => decide (y.s = x.s)) l _ w7 (Cells.next HE.out HB7.out) (by omega) (asks_add x.s (w.heap.size + 1) w7 (lt_of_block y1) (boxc y1 0 _ rfl)) (fun y hy => (HRS.out.fine y hy).ok))
 have i0 := boxc y0 0 _ rfl
 clear y1 y0 hb7 HHS e1 e2 i1 i2
 go_wp2_with fail
 (with_reducible refine HPT.out.mono ?_)
 rintro e wP ⟨a6, n6, c6, b8, m8, d8, rfl, hn6, hm8, hoE, hoD, hbP⟩
 unfold OwnE at hoE
 unfold OwnDs at hoD
 rw [← hn6] at hoE
 rw [← hm8] at hoD
 have HN6 := Lib.hid hn6
 have HM8 := Lib.hid hm8
 have hn6l : n6 ≤ 1000 := by rw [hn6]; exact Nat.le_trans (stays_len _ _) hl
 have hm8l : m8 ≤ 1000 := by rw [hm8]; exact Nat.le_trans (gone_len _ _) hl
 have HOE := Lib.hid hoE
 have HOD := Lib.hid hoD
 have HBP := Lib.hid hbP
 have y1 := ((HB7.out.trans (hbP.mono HB7.out.size)).block _ (lt_of_block X1.out)).trans X1.out
 have e0 := boxc y1 0 _ rfl
 have e1 := boxc y1 1 _ rfl
 have e2 := boxc y1 2 _ rfl
 have e3 := boxc y1 3 _ rfl
 have e4 := boxc y1 4 _ rfl
 clear y1 hoE hoD hbP HPT i0 hn6 hm8
 go_wp2_with fail
 (with_reducible refine (HTW.out _).mono ?_)
 rintro e wT ⟨rfl, hbT⟩
 have HBT := Lib.hid (HBP.out.trans (hbT.mono HBP.out.size))
 have HOE1 := Lib.hid (own_stay HOE.out hbT)
 have HOD1 := Lib.hid (own_stay HOD.out hbT)
 clear hbT e0 e1 e2 e3 e4 HOE HOD HBP
 have hzT : w7.heap.size ≤ wT.heap.size := HBT.out.size
 go_wp2_with (at_builtin; refine app1g (.tmp 34) (.tmp 37) 22 rfl rfl w7.heap.size Tryz.underlying22 infoEnt rfl (by decide) (by decide) HOE1.out rfl rfl rfl (by intro u hu; simp at hu; rcases hu with rfl | rfl | rfl | rfl | rfl <;> rfl) (by omega) hzT ?_)
 intro v' wU hown hgU
 have hbA : Below w7.heap.size w7 (wT.alloc (.cells #[.string x.s, .int .i64 x.d.1, .int .i64 x.d.2, .int .i64 x.t, .slice none 0 0] 54)) := HBT.out.alloc hzT _
 have hzA := hbA.size
 have hoA := World.ownsRow.alloc HOE1.out (.cells #[.string x.s, .int .i64 x.d.1, .int .i64 x.d.2, .int .i64 x.t, .slice none 0 0] 54)
 have hdA := World.ownsRow.alloc HOD1.out (.cells #[.string x.s, .int .i64 x.d.1, .int .i64 x.d.2, .int .i64 x.t, .slice none 0 0] 54)
 have HODU := Lib.hid (own_kt hdA (Kt.append hoA hgU) (by decide))
 have HBU := Lib.hid (hbA.trans (grown_below hoA hzA hgU))
 obtain ⟨aU, cU, rfl⟩ := own_slice hown
 obtain ⟨L1, hL1⟩ : ∃ L, L = staysOf (fun y => decide (y.s = x.s)) l ++ [x] := ⟨_, rfl⟩
 have hL1n : n6 + 1 = L1.length := by rw [hL1, List.length_append, ← HN6.out]; rfl
 have hown1 : wU.ownsRow w7.heap.size 54 5 (.slice aU (n6 + 1) cU) (n6 + 1) (ecells L1) := by rw [hL1, ecells_app]; exact hown
 have hnd : (L1.map Ent.d).Nodup := by
  rw [hL1]; exact nodup_add HRS.out HNK.out
 have HSO := Lib.hid (byd_any _ (n6 + 1) w7.heap.size L1 wU hown1 hL1n HBU.out.size (by omega) hnd)
 have HL1 := Lib.hid hL1
 have HO1 := Lib.hid hown1
 clear hown hgU hbA hzA hoA hdA HOE1 HOD1 hown1 hnd hL1 hzT hL1n
 go_wp2_with fail
 (with_reducible refine HSO.out.mono ?_)
 rintro e W1 ⟨rfl, L2, hp, hup, hoE, hg⟩
 have HPM : Hid (L2.Perm (staysOf (fun y => decide (y.s = x.s)) l ++ [x])) := by
  show List.Perm _ _
  rw [← HL1.out]; exact hp
 have HUP := Lib.hid hup
 have hoD := own_kt HODU.out (Kt.append HO1.out hg) (by decide)
 have HBW := Lib.hid (HBU.out.trans (grown_below HO1.out HBU.out.size hg))
 have HOE := Lib.hid hoE
 have HOD := Lib.hid hoD
 have HNE := Lib.hid (own_ne hoE hoD (by decide))
 have HGK : Hid (∀ j, (Value.slice b8 m8 d8).ownBlock = some j → w7.heap.size ≤ j ∧ j < W1.heap.size) := fun j hj => hoD.lt j hj
 obtain ⟨aU, cU, ev⟩ := own_slice hoE
 obtain ⟨n9, hn9⟩ : ∃ n, n = n6 + 1 := ⟨_, rfl⟩
 simp only [Value.slice.injEq, true_and] at ev
 obtain ⟨rfl, rfl⟩ := ev
 rw [← hn9] at HOE HNE ⊢
 have HN9 := Lib.hid hn9
 have hB4W := HB7.out.trans (HBW.out.mono HB7.out.size)
 have y1 := (hB4W.block _ (lt_of_block X1.out)).trans X1.out
 have XB : Hid (∀ ww, Below w7.heap.size w7 ww → ww.cell? ⟨w.heap.size + 1, 0, none⟩ = some (.string x.s) ∧ ww.cell? ⟨w.heap.size + 1, 1, none⟩ = some (.int .i64 x.d.1) ∧ ww.cell? ⟨w.heap.size + 1, 2, none⟩ = some (.int .i64 x.d.2) ∧ ww.cell? ⟨w.heap.size + 1, 3, none⟩ = some (.int .i64 x.t) ∧ ww.cell? ⟨w.heap.size + 1, 4, none⟩ = some (.slice none 0 0)) := fun ww hw => by
  have y := ((HB7.out.trans (hw.mono HB7.out.size)).block _ (lt_of_block X1.out)).trans X1.out
  exact ⟨boxc y 0 _ rfl, boxc y 1 _ rfl, boxc y 2 _ rfl, boxc y 3 _ rfl, boxc y 4 _ rfl⟩
 have HFR : Hid (∀ (W : World) (ao : Option Addr) (cp : Nat), W.ownsRow w7.heap.size 51 2 (.slice ao (m8 + 1) cp) (m8 + 1) (dcells (goneOf (fun y => decide (y.s = x.s)) l ++ [x.d])) → Calls Tryz.prog 93 #[.slice ao (m8 + 1) cp] W (CtxO (fun d => valid d = true ∧ d ∈ goneOf (fun y => decide (y.s = x.s)) l ++ [x.d]) (m8 + 1) W)) := fun W ao cp hw => by
  have hln : m8 + 1 = (goneOf (fun y => decide (y.s = x.s)) l ++ [x.d]).length := by rw [List.length_append, ← HM8.out]; rfl
  rw [hln] at hw ⊢
  exact from_own _ _ W (Cells.own hw) (by rw [← hln]; omega)
 clear hp hup hoE hg hoD HODU HBU HO1 HL1 HSO hn9 hB4W y1
 go_wp2_with fail
 refine wp_flowG 14 (fun _ => 1000) (fun ww => RowKit.Below w7.heap.size w7 ww ∧ ww.ownsRow w7.heap.size 54 5 (.slice aU n9 cU) n9 (ecells L2) ∧ W1.heap.size ≤ ww.heap.size) (fun i w w' => if i = 10 then (fun (w w' : World) => w.grownBy w' (Value.ownBlock (.slice b8 m8 d8))) w w' else (fun (w w' : World) => RowKit.Below w.heap.size w w') w w') (fun sF wF => match sF with | 10 => (wF.ownsRow w7.heap.size 51 2 (.slice b8 m8 d8) m8 (dcells (goneOf (fun y => decide (y.s = x.s)) l))) | _ => True) (fun kF vF wF => match kF with | 0 => (vF = .agg #[.string x.s, .int .i64 x.d.1, .int .i64 x.d.2, .int .i64 x.t, .slice none 0 0]) | 1 => (vF = .agg #[.string x.s, .int .i64 x.d.1, .int .i64 x.d.2, .int .i64 x.t, .slice none 0 0]) | 2 => (∃ g, vF = .slice (some ⟨g, 0, none⟩) 1 1 ∧ wF.heap[g]? = some (.cells #[.string x.s, .int .i64 x.d.1, .int .i64 x.d.2, .int .i64 x.t, .slice none 0 0] 54 (0, 0)) ∧ W1.heap.size ≤ g) | 3 => (vF = .pointer (some ⟨w.heap.size + 1, 1, none⟩)) | 4 => (vF = .agg #[.int .i64 x.d.1, .int .i64 x.d.2]) | 5 => (∃ g, vF = .slice (some ⟨g, 0, none⟩) 1 1 ∧ wF.heap[g]? = some (.cells #[.int .i64 x.d.1, .int .i64 x.d.2] 51 (0, 0)) ∧ W1.heap.size ≤ g) | 6 => (vF = .slice b8 m8 d8) | 7 => (vF = .pointer (some ⟨w.heap.size + 1, 1, none⟩)) | 8 => (vF = .agg #[.int .i64 x.d.1, .int .i64 x.d.2]) | 9 => (∃ g, vF = .slice (some ⟨g, 0, none⟩) 1 1 ∧ wF.heap[g]? = some (.cells #[.int .i64 x.d.1, .int .i64 x.d.2] 51 (0, 0)) ∧ W1.heap.size ≤ g) | 10 => (∃ ao cp, vF = .slice ao (m8 + 1) cp ∧ wF.ownsRow w7.heap.size 51 2 (.slice ao (m8 + 1) cp) (m8 + 1) (dcells (goneOf (fun y => decide (y.s = x.s)) l ++ [x.d]))) | 11 => (∃ cc f1a f1b f1c f1d f1e f1f, vF = .agg #[.slice f1a f1b f1c, .slice f1d f1e f1f] ∧ OwnC W1.heap.size wF (.agg #[.slice f1a f1b f1c, .slice f1d f1e f1f]) cc ∧ dm.Is cc (fun d => valid d = true ∧ d ∈ goneOf (fun y => decide (y.s = x.s)) l ++ [x.d]) (m8 + 1)) | 12 => (∃ g g' cc f1a f1b f1c f1d f1e f1f, vF = .agg #[.slice (some ⟨g, 0, none⟩) 1 1, .slice (some ⟨g', 0, none⟩) 1 1, .slice f1a f1b f1c, .slice f1d f1e f1f] ∧ wF.heap[g]? = some (.cells #[.string x.s, .int .i64 x.d.1, .int .i64 x.d.2, .int .i64 x.t, .slice none 0 0] 54 (0, 0)) ∧ wF.heap[g']? = some (.cells #[.int .i64 x.d.1, .int .i64 x.d.2] 51 (0, 0)) ∧ W1.heap.size ≤ g ∧ W1.heap.size ≤ g' ∧ OwnC W1.heap.size wF (.agg #[.slice f1a f1b f1c, .slice f1d f1e f1f]) cc ∧ dm.Is cc (fun d => valid d = true ∧ d ∈ goneOf (fun y => decide (y.s = x.s)) l ++ [x.d]) (m8 + 1)) | 13 => (∃ g, vF = .pointer (some ⟨g, 0, none⟩) ∧ wF.heap[g]? = some (.cells #[.slice none 0 0, .slice none 0 0, .slice none 0 0, .slice none 0 0] 29 (0, 0)) ∧ W1.heap.size ≤ g) | _ => True) (fun _ _ _ _ => True) (by kernel_rfl) (by kernel_rfl) ?_ ?_ ?_ ?_ ?_ ?_ ?_
 ·
  exact ⟨HBW.out.drew, own_stay HOE.out ((Below.refl _ _).drew), Nat.le_refl _⟩
 ·
  intro sF hsF
  rcases (by omega : sF = 0 ∨ sF = 1 ∨ sF = 2 ∨ sF = 3 ∨ sF = 4 ∨ sF = 5 ∨ sF = 6 ∨ sF = 7 ∨ sF = 8 ∨ sF = 9 ∨ sF = 10 ∨ sF = 11 ∨ sF = 12 ∨ sF = 13) with rfl | rfl | rfl | rfl | rfl | rfl | rfl | rfl | rfl | rfl | rfl | rfl | rfl | rfl
  iterate 10 exact trivial
  ·
   exact own_stay HOD.out ((Below.refl _ _).drew)
  iterate 3 exact trivial
 ·
  intro iF wF1 wF2 hR hT
  have hT : (fun i w w' => if i = 10 then (fun (w w' : World) => w.grownBy w' (Value.ownBlock (.slice b8 m8 d8))) w w' else (fun (w w' : World) => RowKit.Below w.heap.size w w') w w') iF wF1 wF2 := hT
  simp only at hT
  by_cases hi10 : iF = 10
  ·
   rw [if_pos hi10] at hT; exact ⟨hR.1.grown hT hR.1.size (fun j hj => (HGK.out j hj).1), hR.2.1.kept hT HNE.out, Nat.le_trans hR.2.2 hT.size⟩
  rw [if_neg hi10] at hT
  exact ⟨hR.1.trans (hT.mono hR.1.size), own_stay hR.2.1 hT, Nat.le_trans hR.2.2 hT.size⟩
 ·
  intro sF hsF iF hiF hne hanc wF1 wF2 hRF hgF hT
  rcases (by omega : sF = 0 ∨ sF = 1 ∨ sF = 2 ∨ sF = 3 ∨ sF = 4 ∨ sF = 5 ∨ sF = 6 ∨ sF = 7 ∨ sF = 8 ∨ sF = 9 ∨ sF = 10 ∨ sF = 11 ∨ sF = 12 ∨ sF = 13) with rfl | rfl | rfl | rfl | rfl | rfl | rfl | rfl | rfl | rfl | rfl | rfl | rfl | rfl
  iterate 10 exact trivial
  ·
   have hg : (wF1.ownsRow w7.heap.size 51 2 (.slice b8 m8 d8) m8 (dcells (goneOf (fun y => decide (y.s = x.s)) l))) := hgF
   show (wF2.ownsRow w7.heap.size 51 2 (.slice b8 m8 d8) m8 (dcells (goneOf (fun y => decide (y.s = x.s)) l)))
   have hT : (fun i w w' => if i = 10 then (fun (w w' : World) => w.grownBy w' (Value.ownBlock (.slice b8 m8 d8))) w w' else (fun (w w' : World) => RowKit.Below w.heap.size w w') w w') iF wF1 wF2 := hT
   simp only at hT
   by_cases hi10 : iF = 10
   ·
    exact absurd hi10.symm hne
   rw [if_neg hi10] at hT
   exact own_stay hg hT
  iterate 3 exact trivial
 ·
  intro kF hkF iF hiF hne hdd hanc hdan vF wF1 wF2 h hT
  rcases (by omega : kF = 0 ∨ kF = 1 ∨ kF = 2 ∨ kF = 3 ∨ kF = 4 ∨ kF = 5 ∨ kF = 6 ∨ kF = 7 ∨ kF = 8 ∨ kF = 9 ∨ kF = 10 ∨ kF = 11 ∨ kF = 12 ∨ kF = 13) with rfl | rfl | rfl | rfl | rfl | rfl | rfl | rfl | rfl | rfl | rfl | rfl | rfl | rfl
  iterate 2 exact h
  ·
   have h : (∃ g, vF = .slice (some ⟨g, 0, none⟩) 1 1 ∧ wF1.heap[g]? = some (.cells #[.string x.s, .int .i64 x.d.1, .int .i64 x.d.2, .int .i64 x.t, .slice none 0 0] 54 (0, 0)) ∧ W1.heap.size ≤ g) := h
   show (∃ g, vF = .slice (some ⟨g, 0, none⟩) 1 1 ∧ wF2.heap[g]? = some (.cells #[.string x.s, .int .i64 x.d.1, .int .i64 x.d.2, .int .i64 x.t, .slice none 0 0] 54 (0, 0)) ∧ W1.heap.size ≤ g)
   have hT : (fun i w w' => if i = 10 then (fun (w w' : World) => w.grownBy w' (Value.ownBlock (.slice b8 m8 d8))) w w' else (fun (w w' : World) => RowKit.Below w.heap.size w w') w w') iF wF1 wF2 := hT
   simp only at hT
   by_cases hi10 : iF = 10
   ·
    rw [if_pos hi10] at hT
    obtain ⟨g, e, h1, h2⟩ := h
    exact ⟨g, e, (hT.block _ (lt_of_block h1) (fun e2 => by have := (HGK.out g e2.symm).2; omega)).trans h1, h2⟩
   rw [if_neg hi10] at hT
   obtain ⟨g, e, h1, h2⟩ := h
   exact ⟨g, e, (hT.block _ (lt_of_block h1)).trans h1, h2⟩
  iterate 2 exact h
  ·
   have h : (∃ g, vF = .slice (some ⟨g, 0, none⟩) 1 1 ∧ wF1.heap[g]? = some (.cells #[.int .i64 x.d.1, .int .i64 x.d.2] 51 (0, 0)) ∧ W1.heap.size ≤ g) := h
   show (∃ g, vF = .slice (some ⟨g, 0, none⟩) 1 1 ∧ wF2.heap[g]? = some (.cells #[.int .i64 x.d.1, .int .i64 x.d.2] 51 (0, 0)) ∧ W1.heap.size ≤ g)
   have hT : (fun i w w' => if i = 10 then (fun (w w' : World) => w.grownBy w' (Value.ownBlock (.slice b8 m8 d8))) w w' else (fun (w w' : World) => RowKit.Below w.heap.size w w') w w') iF wF1 wF2 := hT
   simp only at hT
   by_cases hi10 : iF = 10
   ·
    rw [if_pos hi10] at hT
    obtain ⟨g, e, h1, h2⟩ := h
    exact ⟨g, e, (hT.block _ (lt_of_block h1) (fun e2 => by have := (HGK.out g e2.symm).2; omega)).trans h1, h2⟩
   rw [if_neg hi10] at hT
   obtain ⟨g, e, h1, h2⟩ := h
   exact ⟨g, e, (hT.block _ (lt_of_block h1)).trans h1, h2⟩
  iterate 3 exact h
  ·
   have h : (∃ g, vF = .slice (some ⟨g, 0, none⟩) 1 1 ∧ wF1.heap[g]? = some (.cells #[.int .i64 x.d.1, .int .i64 x.d.2] 51 (0, 0)) ∧ W1.heap.size ≤ g) := h
   show (∃ g, vF = .slice (some ⟨g, 0, none⟩) 1 1 ∧ wF2.heap[g]? = some (.cells #[.int .i64 x.d.1, .int .i64 x.d.2] 51 (0, 0)) ∧ W1.heap.size ≤ g)
   have hT : (fun i w w' => if i = 10 then (fun (w w' : World) => w.grownBy w' (Value.ownBlock (.slice b8 m8 d8))) w w' else (fun (w w' : World) => RowKit.Below w.heap.size w w') w w') iF wF1 wF2 := hT
   simp only at hT
   by_cases hi10 : iF = 10
   ·
    rw [if_pos hi10] at hT
    obtain ⟨g, e, h1, h2⟩ := h
    exact ⟨g, e, (hT.block _ (lt_of_block h1) (fun e2 => by have := (HGK.out g e2.symm).2; omega)).trans h1, h2⟩
   rw [if_neg hi10] at hT
   obtain ⟨g, e, h1, h2⟩ := h
   exact ⟨g, e, (hT.block _ (lt_of_block h1)).trans h1, h2⟩
  ·
   have h : (∃ ao cp, vF = .slice ao (m8 + 1) cp ∧ wF1.ownsRow w7.heap.size 51 2 (.slice ao (m8 + 1) cp) (m8 + 1) (dcells (goneOf (fun y => decide (y.s = x.s)) l ++ [x.d]))) := h
   show (∃ ao cp, vF = .slice ao (m8 + 1) cp ∧ wF2.ownsRow w7.heap.size 51 2 (.slice ao (m8 + 1) cp) (m8 + 1) (dcells (goneOf (fun y => decide (y.s = x.s)) l ++ [x.d])))
   have hT : (fun i w w' => if i = 10 then (fun (w w' : World) => w.grownBy w' (Value.ownBlock (.slice b8 m8 d8))) w w' else (fun (w w' : World) => RowKit.Below w.heap.size w w') w w') iF wF1 wF2 := hT
   simp only at hT
   by_cases hi10 : iF = 10
   ·
    exact absurd hi10.symm hne
   rw [if_neg hi10] at hT
   obtain ⟨ao, cp, e, ho⟩ := h
   exact ⟨ao, cp, e, own_stay ho hT⟩
  ·
   have h : (∃ cc f1a f1b f1c f1d f1e f1f, vF = .agg #[.slice f1a f1b f1c, .slice f1d f1e f1f] ∧ OwnC W1.heap.size wF1 (.agg #[.slice f1a f1b f1c, .slice f1d f1e f1f]) cc ∧ dm.Is cc (fun d => valid d = true ∧ d ∈ goneOf (fun y => decide (y.s = x.s)) l ++ [x.d]) (m8 + 1)) := h
   show (∃ cc f1a f1b f1c f1d f1e f1f, vF = .agg #[.slice f1a f1b f1c, .slice f1d f1e f1f] ∧ OwnC W1.heap.size wF2 (.agg #[.slice f1a f1b f1c, .slice f1d f1e f1f]) cc ∧ dm.Is cc (fun d => valid d = true ∧ d ∈ goneOf (fun y => decide (y.s = x.s)) l ++ [x.d]) (m8 + 1))
   have hT : (fun i w w' => if i = 10 then (fun (w w' : World) => w.grownBy w' (Value.ownBlock (.slice b8 m8 d8))) w w' else (fun (w w' : World) => RowKit.Below w.heap.size w w') w w') iF wF1 wF2 := hT
   simp only at hT
   by_cases hi10 : iF = 10
   ·
    subst hi10; exact (anc_no hanc (by kernel_rfl)).elim
   rw [if_neg hi10] at hT
   obtain ⟨cc, f1a, f1b, f1c, f1d, f1e, f1f, e, h1, h2⟩ := h
   exact ⟨cc, f1a, f1b, f1c, f1d, f1e, f1f, e, h1.on hT, h2⟩
  ·
   have h : (∃ g g' cc f1a f1b f1c f1d f1e f1f, vF = .agg #[.slice (some ⟨g, 0, none⟩) 1 1, .slice (some ⟨g', 0, none⟩) 1 1, .slice f1a f1b f1c, .slice f1d f1e f1f] ∧ wF1.heap[g]? = some (.cells #[.string x.s, .int .i64 x.d.1, .int .i64 x.d.2, .int .i64 x.t, .slice none 0 0] 54 (0, 0)) ∧ wF1.heap[g']? = some (.cells #[.int .i64 x.d.1, .int .i64 x.d.2] 51 (0, 0)) ∧ W1.heap.size ≤ g ∧ W1.heap.size ≤ g' ∧ OwnC W1.heap.size wF1 (.agg #[.slice f1a f1b f1c, .slice f1d f1e f1f]) cc ∧ dm.Is cc (fun d => valid d = true ∧ d ∈ goneOf (fun y => decide (y.s = x.s)) l ++ [x.d]) (m8 + 1)) := h
   show (∃ g g' cc f1a f1b f1c f1d f1e f1f, vF = .agg #[.slice (some ⟨g, 0, none⟩) 1 1, .slice (some ⟨g', 0, none⟩) 1 1, .slice f1a f1b f1c, .slice f1d f1e f1f] ∧ wF2.heap[g]? = some (.cells #[.string x.s, .int .i64 x.d.1, .int .i64 x.d.2, .int .i64 x.t, .slice none 0 0] 54 (0, 0)) ∧ wF2.heap[g']? = some (.cells #[.int .i64 x.d.1, .int .i64 x.d.2] 51 (0, 0)) ∧ W1.heap.size ≤ g ∧ W1.heap.size ≤ g' ∧ OwnC W1.heap.size wF2 (.agg #[.slice f1a f1b f1c, .slice f1d f1e f1f]) cc ∧ dm.Is cc (fun d => valid d = true ∧ d ∈ goneOf (fun y => decide (y.s = x.s)) l ++ [x.d]) (m8 + 1))
   have hT : (fun i w w' => if i = 10 then (fun (w w' : World) => w.grownBy w' (Value.ownBlock (.slice b8 m8 d8))) w w' else (fun (w w' : World) => RowKit.Below w.heap.size w w') w w') iF wF1 wF2 := hT
   simp only at hT
   by_cases hi10 : iF = 10
   ·
    subst hi10; exact (anc_no hanc (by kernel_rfl)).elim
   rw [if_neg hi10] at hT
   obtain ⟨g, g', cc, f1a, f1b, f1c, f1d, f1e, f1f, e, h1, h2, h5, h6, h3, h4⟩ := h
   exact ⟨g, g', cc, f1a, f1b, f1c, f1d, f1e, f1f, e, (hT.block _ (lt_of_block h1)).trans h1, (hT.block _ (lt_of_block h2)).trans h2, h5, h6, h3.on hT, h4⟩
  ·
   have h : (∃ g, vF = .pointer (some ⟨g, 0, none⟩) ∧ wF1.heap[g]? = some (.cells #[.slice none 0 0, .slice none 0 0, .slice none 0 0, .slice none 0 0] 29 (0, 0)) ∧ W1.heap.size ≤ g) := h
   show (∃ g, vF = .pointer (some ⟨g, 0, none⟩) ∧ wF2.heap[g]? = some (.cells #[.slice none 0 0, .slice none 0 0, .slice none 0 0, .slice none 0 0] 29 (0, 0)) ∧ W1.heap.size ≤ g)
   have hT : (fun i w w' => if i = 10 then (fun (w w' : World) => w.grownBy w' (Value.ownBlock (.slice b8 m8 d8))) w w' else (fun (w w' : World) => RowKit.Below w.heap.size w w') w w') iF wF1 wF2 := hT
   simp only at hT
   by_cases hi10 : iF = 10
   ·
    rw [if_pos hi10] at hT
    obtain ⟨g, e, h1, h2⟩ := h
    exact ⟨g, e, (hT.block _ (lt_of_block h1) (fun e2 => by have := (HGK.out g e2.symm).2; omega)).trans h1, h2⟩
   rw [if_neg hi10] at hT
   obtain ⟨g, e, h1, h2⟩ := h
   exact ⟨g, e, (hT.block _ (lt_of_block h1)).trans h1, h2⟩
 ·
  generalize hAF : fillOf _ _ _ = AF
  replace hAF := fun x => congrFun hAF x
  simp only [take_succ_cons, take_zero, fillOf, Act.put, setIfInBounds_toArray, set_cons_zero, set_cons_succ, Nat.reduceAdd, Nat.zero_add] at hAF
  refine .cons ?_ (.cons ?_ (.cons ?_ (.cons ?_ (.cons ?_ (.cons ?_ (.cons ?_ (.cons ?_ (.cons ?_ (.cons ?_ (.cons ?_ (.cons ?_ (.cons ?_ (.cons ?_ (.nil))))))))))))))
  all_goals
   intro xF w8 hR hg hd K hK
   first | simp only [← hAF, Act.put, setIfInBounds_toArray, set_cons_zero, set_cons_succ] at hK ⊢ | simp only [← hAF, Act.put] at hK ⊢
   clear hAF
   try simp only [Nat.zero_add, Nat.reduceAdd] at hK ⊢
  ·
   clear hg hd
   obtain ⟨e0, e1, e2, e3, e4⟩ := XB.out _ hR.1
   rw [if_pos (by rfl)]
   go_simp
   exact hK.out _ _ (Below.refl _ _) (rfl) (fun _ _ _ => ⟨trivial, trivial⟩)
  ·
   clear hg
   have dd0 := hd 0 (by kernel_rfl)
   clear hd
   try generalize xF 0 = yy0 at *
   obtain rfl := dd0
   rw [if_pos (by rfl)]
   go_simp
   (go_at_call 33; (with_reducible refine (HTW.out _).mono ?_); rintro e wK ⟨rfl, hbK⟩)
   try go_wp2_with fail
   exact hK.out _ _ (hbK) (rfl) (fun _ _ _ => ⟨trivial, trivial⟩)
  ·
   clear hg
   have dd1 := hd 1 (by kernel_rfl)
   clear hd
   try generalize xF 1 = yy1 at *
   obtain rfl := dd1
   rw [if_pos (by rfl)]
   go_simp
   exact hK.out _ _ (below1) (⟨_, rfl, heap_alloc_new _ _, hR.2.2⟩) (fun _ _ _ => ⟨trivial, trivial⟩)
  ·
   clear hg hd
   rw [if_pos (by rfl)]
   go_simp
   exact hK.out _ _ (Below.refl _ _) (rfl) (fun _ _ _ => ⟨trivial, trivial⟩)
  ·
   clear hg
   have dd3 := hd 3 (by kernel_rfl)
   clear hd
   try generalize xF 3 = yy3 at *
   obtain rfl := dd3
   obtain ⟨e0, e1, e2, e3, e4⟩ := XB.out _ hR.1
   rw [if_pos (by rfl)]
   go_simp
   exact hK.out _ _ (Below.refl _ _) (rfl) (fun _ _ _ => ⟨trivial, trivial⟩)
  ·
   clear hg
   have dd4 := hd 4 (by kernel_rfl)
   clear hd
   try generalize xF 4 = yy4 at *
   obtain rfl := dd4
   rw [if_pos (by rfl)]
   go_simp
   exact hK.out _ _ (below1) (⟨_, rfl, heap_alloc_new _ _, hR.2.2⟩) (fun _ _ _ => ⟨trivial, trivial⟩)
  ·
   clear hg hd
   rw [if_pos (by rfl)]
   go_simp
   exact hK.out _ _ (Below.refl _ _) (rfl) (fun _ _ _ => ⟨trivial, trivial⟩)
  ·
   clear hg hd
   rw [if_pos (by rfl)]
   go_simp
   exact hK.out _ _ (Below.refl _ _) (rfl) (fun _ _ _ => ⟨trivial, trivial⟩)
  ·
   clear hg
   have dd7 := hd 7 (by kernel_rfl)
   clear hd
   try generalize xF 7 = yy7 at *
   obtain rfl := dd7
   obtain ⟨e0, e1, e2, e3, e4⟩ := XB.out _ hR.1
   rw [if_pos (by rfl)]
   go_simp
   exact hK.out _ _ (Below.refl _ _) (rfl) (fun _ _ _ => ⟨trivial, trivial⟩)
  ·
   clear hg
   have dd8 := hd 8 (by kernel_rfl)
   clear hd
   try generalize xF 8 = yy8 at *
   obtain rfl := dd8
   rw [if_pos (by rfl)]
   go_simp
   exact hK.out _ _ (below1) (⟨_, rfl, heap_alloc_new _ _, hR.2.2⟩) (fun _ _ _ => ⟨trivial, trivial⟩)
  ·
   have gg10 : (w8.ownsRow w7.heap.size 51 2 (.slice b8 m8 d8) m8 (dcells (goneOf (fun y => decide (y.s = x.s)) l))) := hg 10 (by omega) (by decide)
   clear hg
   have dd6 := hd 6 (by kernel_rfl)
   have dd9 := hd 9 (by kernel_rfl)
   clear hd
   try generalize xF 6 = yy6 at *
   try generalize xF 9 = yy9 at *
   obtain rfl := dd6
   obtain ⟨g9, rfl, hg9, hl9⟩ := dd9
   rw [if_pos (by rfl)]
   refine wp_of_list1 (fun Q' hQ' => ?_)
   refine appNg (.tmp 47) (.tmp 50) 23 rfl rfl w7.heap.size Tryz.underlying23 infoDot rfl (by decide) (by decide) gg10 rfl rfl (dcells [x.d]) rfl (fun j u hu => by rw [Addr.add_lit, Nat.zero_add]; exact boxc' hg9 j u (by simpa [dcells] using hu)) dcells_one (by omega) hR.1.size ?_
   intro vN wN hownN hgN
   refine hQ' _ _ ?_
   obtain ⟨aoN, cpN, rfl⟩ := own_slice hownN
   simp only [Act.put, setIfInBounds_toArray, set_cons_zero, set_cons_succ]
   exact hK.out _ _ (hgN) (⟨aoN, cpN, rfl, by rw [dcells_app]; exact hownN⟩) (fun _ _ _ => ⟨trivial, trivial⟩)
  ·
   clear hg
   have dd10 := hd 10 (by kernel_rfl)
   clear hd
   try generalize xF 10 = yy10 at *
   obtain ⟨ao10, cp10, rfl, ho10⟩ := dd10
   rw [if_pos (by rfl)]
   go_simp
   (go_at_call 93; (with_reducible refine (HFR.out _ _ _ ho10).mono ?_); rintro e wK ⟨vK, ccK, rfl, hcK, hsK, hbK⟩; obtain ⟨f1a, f1b, f1c, f1d, f1e, f1f, rfl⟩ := hcK.form)
   try go_wp2_with fail
   exact hK.out _ _ (hbK) (⟨ccK, f1a, f1b, f1c, f1d, f1e, f1f, rfl, hcK.low hR.2.2, hsK⟩) (fun _ _ _ => ⟨trivial, trivial⟩)
  ·
   clear hg
   have dd2 := hd 2 (by kernel_rfl)
   have dd5 := hd 5 (by kernel_rfl)
   have dd11 := hd 11 (by kernel_rfl)
   clear hd
   try generalize xF 2 = yy2 at *
   try generalize xF 5 = yy5 at *
   try generalize xF 11 = yy11 at *
   obtain ⟨g2, rfl, hg2, hl2⟩ := dd2
   obtain ⟨g5, rfl, hg5, hl5⟩ := dd5
   obtain ⟨cc11, f1a, f1b, f1c, f1d, f1e, f1f, rfl, hc11, hs11⟩ := dd11
   rw [if_pos (by rfl)]
   go_simp
   exact hK.out _ _ (Below.refl _ _) (⟨g2, g5, cc11, f1a, f1b, f1c, f1d, f1e, f1f, rfl, hg2, hg5, hl2, hl5, hc11, hs11⟩) (fun _ _ _ => ⟨trivial, trivial⟩)
  ·
   clear hg hd
   rw [if_pos (by rfl)]
   go_simp
   exact hK.out _ _ (below1) (⟨_, rfl, heap_alloc_new _ _, hR.2.2⟩) (fun _ _ _ => ⟨trivial, trivial⟩)
 intro xF w8 hR hF hP
 clear hP
 have dd0 := hF 0 (by omega) (by decide)
 have dd1 := hF 1 (by omega) (by decide)
 have dd2 := hF 2 (by omega) (by decide)
 have dd3 := hF 3 (by omega) (by decide)
 have dd4 := hF 4 (by omega) (by decide)
 have dd5 := hF 5 (by omega) (by decide)
 have dd6 := hF 6 (by omega) (by decide)
 have dd7 := hF 7 (by omega) (by decide)
 have dd8 := hF 8 (by omega) (by decide)
 have dd9 := hF 9 (by omega) (by decide)
 have dd10 := hF 10 (by omega) (by decide)
 have dd11 := hF 11 (by omega) (by decide)
 have dd12 := hF 12 (by omega) (by decide)
 have dd13 := hF 13 (by omega) (by decide)
 clear hF
 simp only [take_succ_cons, take_zero, drop_succ_cons, drop_zero, fillOf, Act.put, setIfInBounds_toArray, set_cons_zero, set_cons_succ, Nat.reduceAdd, Nat.zero_add]
 try generalize xF 0 = yy0 at *
 try generalize xF 1 = yy1 at *
 try generalize xF 2 = yy2 at *
 try generalize xF 3 = yy3 at *
 try generalize xF 4 = yy4 at *
 try generalize xF 5 = yy5 at *
 try generalize xF 6 = yy6 at *
 try generalize xF 7 = yy7 at *
 try generalize xF 8 = yy8 at *
 try generalize xF 9 = yy9 at *
 try generalize xF 10 = yy10 at *
 try generalize xF 11 = yy11 at *
 try generalize xF 12 = yy12 at *
 try generalize xF 13 = yy13 at *
 clear xF
 obtain rfl := dd0
 obtain rfl := dd1
 obtain ⟨g2, rfl, hg2, hl2⟩ := dd2
 obtain rfl := dd3
 obtain rfl := dd4
 obtain ⟨g5, rfl, hg5, hl5⟩ := dd5
 obtain rfl := dd6
 obtain rfl := dd7
 obtain rfl := dd8
 obtain ⟨g9, rfl, hg9, hl9⟩ := dd9
 obtain ⟨ao10, cp10, rfl, ho10⟩ := dd10
 obtain ⟨cc11, f1a, f1b, f1c, f1d, f1e, f1f, rfl, hc11, hs11⟩ := dd11
 obtain ⟨gE, gD, ccF, k1a, k1b, k1c, k1d, k1e, k1f, rfl, hgE, hgD, hlE, hlD, hcF, hsF⟩ := dd12
 obtain ⟨gV, rfl, hgV, hlV⟩ := dd13
 have hRE := Lib.hid hR
 clear hR
 have hb8 := hRE.out.1
 have hoE8 := hRE.out.2.1
 have z0 := boxc hgV 0 _ rfl
 have z1 := boxc hgV 1 _ rfl
 have z2 := boxc hgV 2 _ rfl
 have z3 := boxc hgV 3 _ rfl
 have fz0 := boxf hgV 0
 have fz1 := boxf hgV 1
 have fz2 := boxf hgV 2
 have fz3 := boxf hgV 3
 have sb := sl_blk4 hgV
 have hln : n9 = L2.length := by rw [HPM.out.length_eq, List.length_append, ← HN6.out, HN9.out]; rfl
 have hBW := HB7.out.size
 have hBW2 := HBW.out.size
 have hBW3 := HB4.out.size
 have hE8 : EntO w.heap.size w8 (.slice aU n9 cU) L2 := by
  have := own_base hoE8 (by omega : w.heap.size ≤ w7.heap.size)
  unfold EntO
  rwa [← hln]
 have hx8 : EntO w.heap.size w8 (.slice (some ⟨gE, 0, none⟩) 1 1) [x] := own_box hgE rfl rfl (by decide) (by omega)
 have hd8 : DotO w.heap.size w8 (.slice (some ⟨gD, 0, none⟩) 1 1) [x.d] := own_box hgD rfl rfl (by decide) (by omega)
 replace hcF := hcF.low (by omega : w.heap.size ≤ W1.heap.size)
 obtain ⟨W2, hW2⟩ : ∃ W, W = (((w8.setCell ⟨gV, 0, none⟩ (.slice (some ⟨gE, 0, none⟩) 1 1)).setCell ⟨gV, 1, none⟩ (.slice (some ⟨gD, 0, none⟩) 1 1)).setCell ⟨gV, 2, none⟩ (.slice k1a k1b k1c)).setCell ⟨gV, 3, none⟩ (.slice k1d k1e k1f) := ⟨_, rfl⟩
 have hs2 : W2.heap.size = w8.heap.size := by rw [hW2]; simp
 have hk2 : Kt 29 w8 W2 := by rw [hW2]; exact set4_kt hgV _ _ _ _
 have hE2 := hE8.kt hk2 (by decide)
 have hx2 := hx8.kt hk2 (by decide)
 have hd2 := hd8.kt hk2 (by decide)
 have hc2 := hcF.kt hk2 (by decide)
 have hv2 : W2.heap[gV]? = some (.cells #[.slice (some ⟨gE, 0, none⟩) 1 1, .slice (some ⟨gD, 0, none⟩) 1 1, .slice k1a k1b k1c, .slice k1d k1e k1f] 29 (0, 0)) := by
  rw [hW2]
  exact heap_setCell_same _ gV 3 _ _ _ (heap_setCell_same _ gV 2 _ _ _ (heap_setCell_same _ gV 1 _ _ _ (heap_setCell_same _ gV 0 _ _ _ hgV)))
 have hgz : w7.heap.size ≤ gV := Nat.le_trans HBW.out.size hlV
 have hb2 : Below w7.heap.size w7 W2 := by
  rw [hW2]; exact (((hb8.setCell hgz _).setCell hgz _).setCell hgz _).setCell hgz _
 have HB2 := Lib.hid hb2
 have HE2 := Lib.hid hE2
 have HX2 := Lib.hid hx2
 have HD2 := Lib.hid hd2
 have HC2 := Lib.hid hc2
 have HSF := Lib.hid hsF
 have HV2 := Lib.hid hv2
 have HW2 := Lib.hid hW2
 have hB42 := HB7.out.trans (hb2.mono HB7.out.size)
 have HB42 := Lib.hid hB42
 obtain ⟨r3, hr3⟩ : ∃ r, r = w.heap.size + 1 + 1 + 1 := ⟨_, rfl⟩
 obtain ⟨r2, hr2⟩ : ∃ r, r = w.heap.size + 1 + 1 := ⟨_, rfl⟩
 have HR2 : Hid (W2.heap[r2]? = some (.cells #[.slice none 0 0, .slice none 0 0, .slice none 0 0] 27 (0, 0))) := by
  show _ = _
  rw [hr2]; exact (HB42.out.block _ (lt_of_block X2.out)).trans X2.out
 have HR3 : Hid (W2.heap[r3]? = some (.cells #[.slice none 0 0, .slice none 0 0, .slice none 0 0, .slice none 0 0] 29 (0, 0))) := by
  show _ = _
  rw [hr3]; exact (HB42.out.block _ (lt_of_block X3.out)).trans X3.out
 have HBL : Hid (∀ ww, W2.grownBy ww (some r2) → Below w.heap.size w ww) := fun ww hw =>
  (HB4.out.trans (HB42.out.mono HB4.out.size)).grown hw (Nat.le_trans HB4.out.size HB42.out.size) (fun j hj => by cases hj; omega)
 have HAD : Hid (∀ ww, W2.grownBy ww (some r2) → Calls Tryz.prog 94 #[.agg #[.slice s1 p1 c1, .slice s2 p2 c2], .agg #[.int .i64 x.d.1, .int .i64 x.d.2]] ww (CtxO (fun e => dm.Knows c e ∨ e = x.d) (c.2.length + 1) ww)) := fun ww hw =>
  add_own c x.d _ ww (HC0.out.next (HBL.out ww hw)) HFX.out.ok HRS.out.right (by omega)
 have XS : Hid (∀ ww, W2.grownBy ww (some r2) → ww.cell? ⟨w.heap.size, 0, none⟩ = some (.slice ao n0 cap) ∧ ww.cell? ⟨w.heap.size, 1, none⟩ = some (.slice s1 p1 c1) ∧ ww.cell? ⟨w.heap.size, 2, none⟩ = some (.slice s2 p2 c2)) := fun ww hw => by
  have y0 := (HB42.out.block _ (lt_of_block X0.out)).trans X0.out
  have y := (hw.block _ (lt_of_block y0) (fun e => by have := Option.some.inj e; omega)).trans y0
  exact ⟨boxc y 0 _ rfl, boxc y 1 _ rfl, boxc y 2 _ rfl⟩
 have XB2 : Hid (∀ ww, W2.grownBy ww (some r2) → ww.cell? ⟨w.heap.size + 1, 0, none⟩ = some (.string x.s) ∧ ww.cell? ⟨w.heap.size + 1, 1, none⟩ = some (.int .i64 x.d.1) ∧ ww.cell? ⟨w.heap.size + 1, 2, none⟩ = some (.int .i64 x.d.2) ∧ ww.cell? ⟨w.heap.size + 1, 3, none⟩ = some (.int .i64 x.t) ∧ ww.cell? ⟨w.heap.size + 1, 4, none⟩ = some (.slice none 0 0)) := fun ww hw => by
  have y0 := (HB42.out.block _ (lt_of_block X1.out)).trans X1.out
  have y := (hw.block _ (lt_of_block y0) (fun e => by have := Option.some.inj e; omega)).trans y0
  exact ⟨boxc y 0 _ rfl, boxc y 1 _ rfl, boxc y 2 _ rfl, boxc y 3 _ rfl, boxc y 4 _ rfl⟩
 have hgr : r2 < gV := by
  have h1 := lt_of_block X2.out
  have h2 := HB7.out.size
  omega
 have XV : Hid (∀ ww, W2.grownBy ww (some r2) → ww.cell? ⟨gV, 0, none⟩ = some (.slice (some ⟨gE, 0, none⟩) 1 1) ∧ ww.cell? ⟨gV, 1, none⟩ = some (.slice (some ⟨gD, 0, none⟩) 1 1) ∧ ww.cell? ⟨gV, 2, none⟩ = some (.slice k1a k1b k1c) ∧ ww.cell? ⟨gV, 3, none⟩ = some (.slice k1d k1e k1f)) := fun ww hw => by
  have y := (hw.block _ (lt_of_block HV2.out) (fun e => by have := Option.some.inj e; omega)).trans HV2.out
  exact ⟨boxc y 0 _ rfl, boxc y 1 _ rfl, boxc y 2 _ rfl, boxc y 3 _ rfl⟩
 clear sb hE8 hx8 hd8 hs2 hk2 hlE hlD hBW hBW2 hBW3 hE2 hx2 hd2 hc2 hv2 hb2 hB42 hsF hcF hgE hgD hoE8 hln hW2 hgz
 go_wp2_with fail
 rw [← HW2.out]
 rw [← hr3, ← hr2]
 have HRa := Lib.hid hr2
 have HRb := Lib.hid hr3
 clear hr2 hr3 hgr z0 z1 z2 z3 fz0 fz1 fz2 fz3
 refine wp_flowG 9 (fun kF => match kF with | 6 => 8 | _ => 1000) (fun ww => W2.grownBy ww (some r2)) (fun i w w' => if i = 8 then (fun (w w' : World) => ∃ a0 n0 c0 a1 n1 c1 a2 n2 c2, w' = ((w.setCell ⟨r2, 0, none⟩ (.slice a0 n0 c0)).setCell ⟨r2, 1, none⟩ (.slice a1 n1 c1)).setCell ⟨r2, 2, none⟩ (.slice a2 n2 c2) ∧ w.heap[r2]? = some (.cells #[.slice none 0 0, .slice none 0 0, .slice none 0 0] 27 (0, 0))) w w' else (fun (w w' : World) => RowKit.Below w.heap.size w w') w w') (fun sF wF => match sF with | 8 => (wF.heap[r2]? = some (.cells #[.slice none 0 0, .slice none 0 0, .slice none 0 0] 27 (0, 0))) | _ => True) (fun kF vF wF => match kF with | 0 => (vF = .slice aU n9 cU) | 1 => (vF = .pointer (some ⟨w.heap.size, 1, none⟩)) | 2 => (vF = .agg #[.slice s1 p1 c1, .slice s2 p2 c2]) | 3 => (vF = .pointer (some ⟨w.heap.size + 1, 1, none⟩)) | 4 => (vF = .agg #[.int .i64 x.d.1, .int .i64 x.d.2]) | 5 => (∃ cc f2a f2b f2c f2d f2e f2f, vF = .agg #[.slice f2a f2b f2c, .slice f2d f2e f2f] ∧ OwnC W2.heap.size wF (.agg #[.slice f2a f2b f2c, .slice f2d f2e f2f]) cc ∧ dm.Is cc (fun e => dm.Knows c e ∨ e = x.d) (c.2.length + 1)) | 6 => (∃ cc f2a f2b f2c f2d f2e f2f, vF = .agg #[.slice aU n9 cU, .slice f2a f2b f2c, .slice f2d f2e f2f] ∧ OwnC W2.heap.size wF (.agg #[.slice f2a f2b f2c, .slice f2d f2e f2f]) cc ∧ dm.Is cc (fun e => dm.Knows c e ∨ e = x.d) (c.2.length + 1)) | 7 => (vF = .agg #[.slice (some ⟨gE, 0, none⟩) 1 1, .slice (some ⟨gD, 0, none⟩) 1 1, .slice k1a k1b k1c, .slice k1d k1e k1f]) | 8 => (∃ cc f2a f2b f2c f2d f2e f2f, wF.heap[r2]? = some (.cells #[.slice aU n9 cU, .slice f2a f2b f2c, .slice f2d f2e f2f] 27 (0, 0)) ∧ OwnC W2.heap.size wF (.agg #[.slice f2a f2b f2c, .slice f2d f2e f2f]) cc ∧ dm.Is cc (fun e => dm.Knows c e ∨ e = x.d) (c.2.length + 1)) | _ => True) (fun _ _ _ _ => True) (by kernel_rfl) (by kernel_rfl) ?_ ?_ ?_ ?_ ?_ ?_ ?_
 ·
  exact grown_below' ((Below.refl _ _).drew)
 ·
  intro sF hsF
  rcases (by omega : sF = 0 ∨ sF = 1 ∨ sF = 2 ∨ sF = 3 ∨ sF = 4 ∨ sF = 5 ∨ sF = 6 ∨ sF = 7 ∨ sF = 8) with rfl | rfl | rfl | rfl | rfl | rfl | rfl | rfl | rfl
  iterate 8 exact trivial
  ·
   exact HR2.out
 ·
  intro iF wF1 wF2 hR hT
  have hT : (fun i w w' => if i = 8 then (fun (w w' : World) => ∃ a0 n0 c0 a1 n1 c1 a2 n2 c2, w' = ((w.setCell ⟨r2, 0, none⟩ (.slice a0 n0 c0)).setCell ⟨r2, 1, none⟩ (.slice a1 n1 c1)).setCell ⟨r2, 2, none⟩ (.slice a2 n2 c2) ∧ w.heap[r2]? = some (.cells #[.slice none 0 0, .slice none 0 0, .slice none 0 0] 27 (0, 0))) w w' else (fun (w w' : World) => RowKit.Below w.heap.size w w') w w') iF wF1 wF2 := hT
  simp only at hT
  by_cases hi8 : iF = 8
  ·
   rw [if_pos hi8] at hT; (obtain ⟨_, _, _, _, _, _, _, _, _, rfl, hN⟩ := hT; exact grown_trans hR (set3_grown _))
  rw [if_neg hi8] at hT
  exact grown_trans hR (grown_below' hT)
 ·
  intro sF hsF iF hiF hne hanc wF1 wF2 hRF hgF hT
  rcases (by omega : sF = 0 ∨ sF = 1 ∨ sF = 2 ∨ sF = 3 ∨ sF = 4 ∨ sF = 5 ∨ sF = 6 ∨ sF = 7 ∨ sF = 8) with rfl | rfl | rfl | rfl | rfl | rfl | rfl | rfl | rfl
  iterate 8 exact trivial
  ·
   have hg : (wF1.heap[r2]? = some (.cells #[.slice none 0 0, .slice none 0 0, .slice none 0 0] 27 (0, 0))) := hgF
   show (wF2.heap[r2]? = some (.cells #[.slice none 0 0, .slice none 0 0, .slice none 0 0] 27 (0, 0)))
   have hT : (fun i w w' => if i = 8 then (fun (w w' : World) => ∃ a0 n0 c0 a1 n1 c1 a2 n2 c2, w' = ((w.setCell ⟨r2, 0, none⟩ (.slice a0 n0 c0)).setCell ⟨r2, 1, none⟩ (.slice a1 n1 c1)).setCell ⟨r2, 2, none⟩ (.slice a2 n2 c2) ∧ w.heap[r2]? = some (.cells #[.slice none 0 0, .slice none 0 0, .slice none 0 0] 27 (0, 0))) w w' else (fun (w w' : World) => RowKit.Below w.heap.size w w') w w') iF wF1 wF2 := hT
   simp only at hT
   by_cases hi8 : iF = 8
   ·
    exact absurd hi8.symm hne
   rw [if_neg hi8] at hT
   exact (hT.block _ (lt_of_block hg)).trans hg
 ·
  intro kF hkF iF hiF hne hdd hanc hdan vF wF1 wF2 h hT
  rcases (by omega : kF = 0 ∨ kF = 1 ∨ kF = 2 ∨ kF = 3 ∨ kF = 4 ∨ kF = 5 ∨ kF = 6 ∨ kF = 7 ∨ kF = 8) with rfl | rfl | rfl | rfl | rfl | rfl | rfl | rfl | rfl
  iterate 5 exact h
  ·
   have h : (∃ cc f2a f2b f2c f2d f2e f2f, vF = .agg #[.slice f2a f2b f2c, .slice f2d f2e f2f] ∧ OwnC W2.heap.size wF1 (.agg #[.slice f2a f2b f2c, .slice f2d f2e f2f]) cc ∧ dm.Is cc (fun e => dm.Knows c e ∨ e = x.d) (c.2.length + 1)) := h
   show (∃ cc f2a f2b f2c f2d f2e f2f, vF = .agg #[.slice f2a f2b f2c, .slice f2d f2e f2f] ∧ OwnC W2.heap.size wF2 (.agg #[.slice f2a f2b f2c, .slice f2d f2e f2f]) cc ∧ dm.Is cc (fun e => dm.Knows c e ∨ e = x.d) (c.2.length + 1))
   have hT : (fun i w w' => if i = 8 then (fun (w w' : World) => ∃ a0 n0 c0 a1 n1 c1 a2 n2 c2, w' = ((w.setCell ⟨r2, 0, none⟩ (.slice a0 n0 c0)).setCell ⟨r2, 1, none⟩ (.slice a1 n1 c1)).setCell ⟨r2, 2, none⟩ (.slice a2 n2 c2) ∧ w.heap[r2]? = some (.cells #[.slice none 0 0, .slice none 0 0, .slice none 0 0] 27 (0, 0))) w w' else (fun (w w' : World) => RowKit.Below w.heap.size w w') w w') iF wF1 wF2 := hT
   simp only at hT
   by_cases hi8 : iF = 8
   ·
    rw [if_pos hi8] at hT
    obtain ⟨cc, f2a, f2b, f2c, f2d, f2e, f2f, e, h1, h2⟩ := h
    obtain ⟨_, _, _, _, _, _, _, _, _, rfl, hN⟩ := hT
    exact ⟨cc, f2a, f2b, f2c, f2d, f2e, f2f, e, h1.kt (set3_kt hN _ _ _) (by decide), h2⟩
   rw [if_neg hi8] at hT
   obtain ⟨cc, f2a, f2b, f2c, f2d, f2e, f2f, e, h1, h2⟩ := h
   exact ⟨cc, f2a, f2b, f2c, f2d, f2e, f2f, e, h1.on hT, h2⟩
  ·
   have h : (∃ cc f2a f2b f2c f2d f2e f2f, vF = .agg #[.slice aU n9 cU, .slice f2a f2b f2c, .slice f2d f2e f2f] ∧ OwnC W2.heap.size wF1 (.agg #[.slice f2a f2b f2c, .slice f2d f2e f2f]) cc ∧ dm.Is cc (fun e => dm.Knows c e ∨ e = x.d) (c.2.length + 1)) := h
   show (∃ cc f2a f2b f2c f2d f2e f2f, vF = .agg #[.slice aU n9 cU, .slice f2a f2b f2c, .slice f2d f2e f2f] ∧ OwnC W2.heap.size wF2 (.agg #[.slice f2a f2b f2c, .slice f2d f2e f2f]) cc ∧ dm.Is cc (fun e => dm.Knows c e ∨ e = x.d) (c.2.length + 1))
   have hT : (fun i w w' => if i = 8 then (fun (w w' : World) => ∃ a0 n0 c0 a1 n1 c1 a2 n2 c2, w' = ((w.setCell ⟨r2, 0, none⟩ (.slice a0 n0 c0)).setCell ⟨r2, 1, none⟩ (.slice a1 n1 c1)).setCell ⟨r2, 2, none⟩ (.slice a2 n2 c2) ∧ w.heap[r2]? = some (.cells #[.slice none 0 0, .slice none 0 0, .slice none 0 0] 27 (0, 0))) w w' else (fun (w w' : World) => RowKit.Below w.heap.size w w') w w') iF wF1 wF2 := hT
   simp only at hT
   by_cases hi8 : iF = 8
   ·
    exact absurd hi8.symm hdd
   rw [if_neg hi8] at hT
   obtain ⟨cc, f2a, f2b, f2c, f2d, f2e, f2f, e, h1, h2⟩ := h
   exact ⟨cc, f2a, f2b, f2c, f2d, f2e, f2f, e, h1.on hT, h2⟩
  ·
   exact h
  ·
   have h : (∃ cc f2a f2b f2c f2d f2e f2f, wF1.heap[r2]? = some (.cells #[.slice aU n9 cU, .slice f2a f2b f2c, .slice f2d f2e f2f] 27 (0, 0)) ∧ OwnC W2.heap.size wF1 (.agg #[.slice f2a f2b f2c, .slice f2d f2e f2f]) cc ∧ dm.Is cc (fun e => dm.Knows c e ∨ e = x.d) (c.2.length + 1)) := h
   show (∃ cc f2a f2b f2c f2d f2e f2f, wF2.heap[r2]? = some (.cells #[.slice aU n9 cU, .slice f2a f2b f2c, .slice f2d f2e f2f] 27 (0, 0)) ∧ OwnC W2.heap.size wF2 (.agg #[.slice f2a f2b f2c, .slice f2d f2e f2f]) cc ∧ dm.Is cc (fun e => dm.Knows c e ∨ e = x.d) (c.2.length + 1))
   have hT : (fun i w w' => if i = 8 then (fun (w w' : World) => ∃ a0 n0 c0 a1 n1 c1 a2 n2 c2, w' = ((w.setCell ⟨r2, 0, none⟩ (.slice a0 n0 c0)).setCell ⟨r2, 1, none⟩ (.slice a1 n1 c1)).setCell ⟨r2, 2, none⟩ (.slice a2 n2 c2) ∧ w.heap[r2]? = some (.cells #[.slice none 0 0, .slice none 0 0, .slice none 0 0] 27 (0, 0))) w w' else (fun (w w' : World) => RowKit.Below w.heap.size w w') w w') iF wF1 wF2 := hT
   simp only at hT
   by_cases hi8 : iF = 8
   ·
    exact absurd hi8.symm hne
   rw [if_neg hi8] at hT
   obtain ⟨cc, f2a, f2b, f2c, f2d, f2e, f2f, e, h1, h2⟩ := h
   exact ⟨cc, f2a, f2b, f2c, f2d, f2e, f2f, (hT.block _ (lt_of_block e)).trans e, h1.on hT, h2⟩
 ·
  generalize hAF : fillOf _ _ _ = AF
  replace hAF := fun x => congrFun hAF x
  simp only [take_succ_cons, take_zero, fillOf, Act.put, setIfInBounds_toArray, set_cons_zero, set_cons_succ, Nat.reduceAdd, Nat.zero_add] at hAF
  refine .cons ?_ (.cons ?_ (.cons ?_ (.cons ?_ (.cons ?_ (.cons ?_ (.cons ?_ (.cons ?_ (.cons ?_ (.nil)))))))))
  all_goals
   intro xF w9 hR hg hd K hK
   first | simp only [← hAF, Act.put, setIfInBounds_toArray, set_cons_zero, set_cons_succ] at hK ⊢ | simp only [← hAF, Act.put] at hK ⊢
   clear hAF
   try simp only [Nat.zero_add, Nat.reduceAdd] at hK ⊢
  ·
   clear hg hd
   obtain hbR := id hR
   rw [if_pos (by rfl)]
   go_simp
   exact hK.out _ _ (Below.refl _ _) (rfl) (fun _ _ _ => ⟨trivial, trivial⟩)
  ·
   clear hg hd
   obtain hbR := id hR
   rw [if_pos (by rfl)]
   go_simp
   exact hK.out _ _ (Below.refl _ _) (rfl) (fun _ _ _ => ⟨trivial, trivial⟩)
  ·
   clear hg
   have dd1 := hd 1 (by kernel_rfl)
   clear hd
   try generalize xF 1 = yy1 at *
   obtain rfl := dd1
   obtain hbR := id hR
   obtain ⟨i0, i1, i2⟩ := XS.out _ hR
   rw [if_pos (by rfl)]
   go_simp
   exact hK.out _ _ (Below.refl _ _) (rfl) (fun _ _ _ => ⟨trivial, trivial⟩)
  ·
   clear hg hd
   obtain hbR := id hR
   rw [if_pos (by rfl)]
   go_simp
   exact hK.out _ _ (Below.refl _ _) (rfl) (fun _ _ _ => ⟨trivial, trivial⟩)
  ·
   clear hg
   have dd3 := hd 3 (by kernel_rfl)
   clear hd
   try generalize xF 3 = yy3 at *
   obtain rfl := dd3
   obtain hbR := id hR
   obtain ⟨e0, e1, e2, e3, e4⟩ := XB2.out _ hR
   rw [if_pos (by rfl)]
   go_simp
   exact hK.out _ _ (Below.refl _ _) (rfl) (fun _ _ _ => ⟨trivial, trivial⟩)
  ·
   clear hg
   have dd2 := hd 2 (by kernel_rfl)
   have dd4 := hd 4 (by kernel_rfl)
   clear hd
   try generalize xF 2 = yy2 at *
   try generalize xF 4 = yy4 at *
   obtain rfl := dd2
   obtain rfl := dd4
   obtain hbR := id hR
   rw [if_pos (by rfl)]
   go_simp
   (go_at_call 94; (with_reducible refine (HAD.out _ hR).mono ?_); rintro e wK ⟨vK, ccK, rfl, hcK, hsK, hbK⟩; obtain ⟨f2a, f2b, f2c, f2d, f2e, f2f, rfl⟩ := hcK.form)
   try go_wp2_with fail
   exact hK.out _ _ (hbK) (⟨ccK, f2a, f2b, f2c, f2d, f2e, f2f, rfl, hcK.low hR.size, hsK⟩) (fun _ _ _ => ⟨trivial, trivial⟩)
  ·
   clear hg
   have dd0 := hd 0 (by kernel_rfl)
   have dd5 := hd 5 (by kernel_rfl)
   clear hd
   try generalize xF 0 = yy0 at *
   try generalize xF 5 = yy5 at *
   obtain rfl := dd0
   obtain ⟨cc5, f2a, f2b, f2c, f2d, f2e, f2f, rfl, hc5, hs5⟩ := dd5
   obtain hbR := id hR
   rw [if_pos (by rfl)]
   go_simp
   exact hK.out _ _ (Below.refl _ _) (⟨cc5, f2a, f2b, f2c, f2d, f2e, f2f, rfl, hc5, hs5⟩) (fun _ _ _ => ⟨trivial, trivial⟩)
  ·
   clear hg hd
   obtain hbR := id hR
   obtain ⟨j0, j1, j2, j3⟩ := XV.out _ hR
   rw [if_pos (by rfl)]
   go_simp
   exact hK.out _ _ (Below.refl _ _) (rfl) (fun _ _ _ => ⟨trivial, trivial⟩)
  ·
   have gg8 : (w9.heap[r2]? = some (.cells #[.slice none 0 0, .slice none 0 0, .slice none 0 0] 27 (0, 0))) := hg 8 (by omega) (by decide)
   clear hg
   have dd6 := hd 6 (by kernel_rfl)
   clear hd
   try generalize xF 6 = yy6 at *
   obtain ⟨ccS, q2a, q2b, q2c, q2d, q2e, q2f, rfl, hcS, hsS⟩ := dd6
   obtain hbR := id hR
   have k0 := boxc gg8 0 _ rfl
   have k1 := boxc gg8 1 _ rfl
   have k2 := boxc gg8 2 _ rfl
   have g0 := boxf gg8 0
   have g1 := boxf gg8 1
   have g2 := boxf gg8 2
   rw [if_pos (by rfl)]
   go_simp
   exact hK.out undef _ (⟨_, _, _, _, _, _, _, _, _, rfl, gg8⟩) (⟨ccS, q2a, q2b, q2c, q2d, q2e, q2f, heap_setCell_same _ r2 2 _ _ _ (heap_setCell_same _ r2 1 _ _ _ (heap_setCell_same _ r2 0 _ _ _ gg8)), hcS.kt (set3_kt gg8 _ _ _) (by decide), hsS⟩) (fun _ _ _ => ⟨trivial, trivial⟩)
 intro xF w9 hR hF hP
 clear hP
 have dd0 := hF 0 (by omega) (by decide)
 have dd1 := hF 1 (by omega) (by decide)
 have dd2 := hF 2 (by omega) (by decide)
 have dd3 := hF 3 (by omega) (by decide)
 have dd4 := hF 4 (by omega) (by decide)
 have dd5 := hF 5 (by omega) (by decide)
 have dd7 := hF 7 (by omega) (by decide)
 have dd8 := hF 8 (by omega) (by decide)
 clear hF
 simp only [take_succ_cons, take_zero, drop_succ_cons, drop_zero, fillOf, Act.put, setIfInBounds_toArray, set_cons_zero, set_cons_succ, Nat.reduceAdd, Nat.zero_add]
 try generalize xF 0 = yy0 at *
 try generalize xF 1 = yy1 at *
 try generalize xF 2 = yy2 at *
 try generalize xF 3 = yy3 at *
 try generalize xF 4 = yy4 at *
 try generalize xF 5 = yy5 at *
 try generalize xF 6 = yy6 at *
 try generalize xF 7 = yy7 at *
 try generalize xF 8 = yy8 at *
 clear xF
 obtain rfl := dd0
 obtain rfl := dd1
 obtain rfl := dd2
 obtain rfl := dd3
 obtain rfl := dd4
 obtain ⟨cc5, f2a, f2b, f2c, f2d, f2e, f2f, rfl, hc5, hs5⟩ := dd5
 obtain rfl := dd7
 obtain ⟨ccR, w2a, w2b, w2c, w2d, w2e, w2f, hRS, hcR, hsR⟩ := dd8
 have hRE := Lib.hid hR
 clear hR
 have hg9 : W2.grownBy w9 (some r2) := hRE.out
 have h32 : r3 ≠ r2 := by have := HRa.out; have := HRb.out; omega
 have y3 : w9.heap[r3]? = some (.cells #[.slice none 0 0, .slice none 0 0, .slice none 0 0, .slice none 0 0] 29 (0, 0)) := (hg9.block _ (lt_of_block HR3.out) (fun e => h32 (Option.some.inj e))).trans HR3.out
 have sb := sl_blk4 y3
 have sr := sl_blk3 HR2.out
 have hk9 : Kt 27 W2 w9 := Kt.of_grown hg9 HR2.out
 have hE9 := HE2.out.kt hk9 (by decide)
 have hx9 := HX2.out.kt hk9 (by decide)
 have hd9 := HD2.out.kt hk9 (by decide)
 have hc9 := HC2.out.kt hk9 (by decide)
 have hb9 := HBL.out w9 hg9
 obtain ⟨W3, hW3⟩ : ∃ W, W = (((w9.setCell ⟨r3, 0, none⟩ (.slice (some ⟨gE, 0, none⟩) 1 1)).setCell ⟨r3, 1, none⟩ (.slice (some ⟨gD, 0, none⟩) 1 1)).setCell ⟨r3, 2, none⟩ (.slice k1a k1b k1c)).setCell ⟨r3, 3, none⟩ (.slice k1d k1e k1f) := ⟨_, rfl⟩
 have hs3 : W3.heap.size = w9.heap.size := by rw [hW3]; simp
 have hk3 : Kt 29 w9 W3 := by rw [hW3]; exact set4_kt y3 _ _ _ _
 have hE3 := hE9.kt hk3 (by decide)
 have hx3 := hx9.kt hk3 (by decide)
 have hd3 := hd9.kt hk3 (by decide)
 have hc3 := hc9.kt hk3 (by decide)
 have hr3 := (hcR.kt hk3 (by decide)).low (Nat.le_trans HB4.out.size HB42.out.size)
 have hv3 : W3.heap[r3]? = some (.cells #[.slice (some ⟨gE, 0, none⟩) 1 1, .slice (some ⟨gD, 0, none⟩) 1 1, .slice k1a k1b k1c, .slice k1d k1e k1f] 29 (0, 0)) := by
  rw [hW3]
  exact heap_setCell_same _ r3 3 _ _ _ (heap_setCell_same _ r3 2 _ _ _ (heap_setCell_same _ r3 1 _ _ _ (heap_setCell_same _ r3 0 _ _ _ y3)))
 have hv2 : W3.heap[r2]? = some (.cells #[.slice aU n9 cU, .slice w2a w2b w2c, .slice w2d w2e w2f] 27 (0, 0)) := by
  rw [hW3, Below.heap_setCell _ _ _ _ h32.symm, Below.heap_setCell _ _ _ _ h32.symm, Below.heap_setCell _ _ _ _ h32.symm, Below.heap_setCell _ _ _ _ h32.symm]
  exact hRS
 have hz3 : w.heap.size ≤ r3 := by have := HRb.out; omega
 have hb3 : Below w.heap.size w W3 := by
  rw [hW3]; exact (((hb9.setCell hz3 _).setCell hz3 _).setCell hz3 _).setCell hz3 _
 have HRET : Hid (AddP l c x w (.returned (.tuple #[.agg #[.slice aU n9 cU, .slice w2a w2b w2c, .slice w2d w2e w2f], .agg #[.slice (some ⟨gE, 0, none⟩) 1 1, .slice (some ⟨gD, 0, none⟩) 1 1, .slice k1a k1b k1c, .slice k1d k1e k1f], .int .i64 0])) W3) :=
  ⟨_, _, _, _, _, _, _, L2, ccR, ccF, rfl, hE3, hr3, hx3, hd3, hc3, HPM.out, HUP.out, hsR, ⟨_, HSF.out⟩, hb3⟩
 have z0 := boxc y3 0 _ rfl
 have z1 := boxc y3 1 _ rfl
 have z2 := boxc y3 2 _ rfl
 have z3 := boxc y3 3 _ rfl
 have fz0 := boxf y3 0
 have fz1 := boxf y3 1
 have fz2 := boxf y3 2
 have fz3 := boxf y3 3
 have HW3 := Lib.hid hW3
 have HV3 := Lib.hid hv3
 have HV2b := Lib.hid hv2
 clear hg9 hk9 hk3 y3 sb sr hE9 hx9 hd9 hc9 hb9 hs3 hE3 hx3 hd3 hc3 hr3 hv3 hv2 hb3 hW3 hcR hsR hRS h32 hz3
 go_wp2_with fail
 rw [← HW3.out]
 have d0 := boxc HV3.out 0 _ rfl
 have d1 := boxc HV3.out 1 _ rfl
 have d2 := boxc HV3.out 2 _ rfl
 have d3 := boxc HV3.out 3 _ rfl
 have s0 := boxc HV2b.out 0 _ rfl
 have s1' := boxc HV2b.out 1 _ rfl
 have s2' := boxc HV2b.out 2 _ rfl
 exact bodyPost_ret (v := .tuple #[.agg #[.slice aU n9 cU, .slice w2a w2b w2c, .slice w2d w2e w2f], .agg #[.slice (some ⟨gE, 0, none⟩) 1 1, .slice (some ⟨gD, 0, none⟩) 1 1, .slice k1a k1b k1c, .slice k1d k1e k1f], .int .i64 0]) (by simp [results, Tryz.results53, go_sem, d0, d1, d2, d3, s0, s1', s2']) rfl HRET.out
end Go.Proofs.YtonknpdalemjkaaGreat
