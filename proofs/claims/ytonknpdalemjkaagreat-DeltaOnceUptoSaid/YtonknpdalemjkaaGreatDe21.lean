/- texts put together: OrsApp, OrsHom, OrsInv, DelMath, DelPs, OrsMean, DelNam. -/
import Derived.Test.YtonknpdalemjkaaGreatDe15
import Derived.Test.YtonknpdalemjkaaGreatDe19
import Derived.Test.YtonknpdalemjkaaGreatDe20
namespace Go.Proofs.YtonknpdalemjkaaGreat
open Go Go.RowKit Go.ChangeShapes cl Go.WideMaps Go.Maps
def newOf (c : dm.Ctx) (l : List Ent) : List Ent := l.filter fun x => !dm.hasF c x.d
theorem newOf_snoc (c : dm.Ctx) (l : List Ent) (x : Ent) : newOf c (l ++ [x]) = if dm.hasF c x.d then newOf c l else newOf c l ++ [x] := by
 unfold newOf
 rw [List.filter_append]
 cases h : dm.hasF c x.d <;> simp [h]
theorem newOf_len (c : dm.Ctx) (l : List Ent) : (newOf c l).length ≤ l.length := List.length_filter_le _ _
theorem nodup_app {l L : List Ent} {c : dm.Ctx} {p : Ent → Bool} (hr : RSet l c) (hu : os.Up L) : ((staysOf p l ++ newOf c L).map Ent.d).Nodup := by
 rw [List.map_append, List.nodup_append]
 refine ⟨(nodup_of hr.up).sublist (List.Sublist.map _ List.filter_sublist), (nodup_of hu).sublist (List.Sublist.map _ List.filter_sublist), fun a ha b hb e => ?_⟩
 obtain ⟨y, hy, rfl⟩ := List.mem_map.1 ha
 obtain ⟨z, hz, rfl⟩ := List.mem_map.1 hb
 have h1 := hr.kn y (List.mem_filter.1 hy).1
 have h2 := (List.mem_filter.1 hz).2
 rw [e] at h1
 rw [dm.hasF_iff.2 h1] at h2
 cases h2
def ApplyP (l : List Ent) (c : dm.Ctx) (L : List Ent) (A : List Dot) (dc : dm.Ctx) (w : World) (e : Ending) (w' : World) : Prop :=
 ∃ (u0 u1 u2 : Value) (L' : List Ent) (c' : dm.Ctx), e = .returned (.agg #[u0, u1, u2]) ∧ EntO w.heap.size w' u0 L' ∧ OwnC w.heap.size w' (.agg #[u1, u2]) c' ∧ L'.Perm (staysOf (deadF A dc) l ++ newOf c L) ∧ os.Up L' ∧
  dm.Is c' (fun e => dm.Knows c e ∨ dm.Knows dc e) (c.2.length + dc.2.length) ∧ Below w.heap.size w w'
set_option maxHeartbeats 12800000 in
set_option maxRecDepth 100000 in
theorem oapply_yes (l : List Ent) (c : dm.Ctx) (L : List Ent) (A : List Dot) (dc : dm.Ctx) (ve v1 v2 ue ua u1 u2 : Value) (w : World) (h : Ents w w.heap.size ve l) (hc : CtxAt w w.heap.size (.agg #[v1, v2]) c) (hu : Ents w w.heap.size ue L) (ha : Dots w w.heap.size ua A) (hdc : CtxAt w w.heap.size (.agg #[u1, u2]) dc)
  (hr : RSet l c) (hrd : RDel L A dc) (ht : ∀ d ∈ A, d ∈ L.map Ent.d ∨ dm.Knows c d) (hl : l.length ≤ 1000) (hL : L.length ≤ 1000) (hA : A.length ≤ 1000) (hcl : c.2.length ≤ 1000) (hdl : dc.2.length ≤ 1000) (hm : MX w) :
  Calls Tryz.prog 24 #[.agg #[ve, v1, v2], .agg #[ue, ua, u1, u2]] w (ApplyP l c L A dc w) := by
 obtain ⟨n0, hn0⟩ : ∃ n, n = l.length := ⟨_, rfl⟩
 obtain ⟨ao, cap, rfl⟩ : ∃ ao cap, ve = .slice ao n0 cap := by
  obtain ⟨ao, cap, e, _⟩ := h.form
  exact ⟨ao, cap, by rw [hn0]; exact e⟩
 obtain ⟨n, hn⟩ : ∃ n, n = L.length := ⟨_, rfl⟩
 obtain ⟨eo, ecap, rfl⟩ : ∃ ao cap, ue = .slice ao n cap := by
  obtain ⟨ao, cap, e, _⟩ := hu.form
  exact ⟨ao, cap, by rw [hn]; exact e⟩
 obtain ⟨m, hmA⟩ : ∃ n, n = A.length := ⟨_, rfl⟩
 obtain ⟨ado, dcap, rfl⟩ : ∃ ao cap, ua = .slice ao m cap := by
  obtain ⟨ao, cap, e, _⟩ := ha.form
  exact ⟨ao, cap, by rw [hmA]; exact e⟩
 have HN := Lib.hid hn
 have hn6 : n ≤ 1000 := by omega
 obtain ⟨s1, p1, c1, s2, p2, c2, e0, hp1, hp2⟩ := hc.form
 simp only [Value.agg.injEq, Array.mk.injEq, List.cons.injEq, and_true] at e0
 obtain ⟨rfl, rfl⟩ := e0
 obtain ⟨s3, p3, c3, s4, p4, c4, e0, hp3, hp4⟩ := hdc.form
 simp only [Value.agg.injEq, Array.mk.injEq, List.cons.injEq, and_true] at e0
 obtain ⟨rfl, rfl⟩ := e0
 clear hp1 hp2 hp3 hp4 hn0 hn hmA
 obtain ⟨WA, hWA⟩ : ∃ W, W = w.alloc (.cells #[.slice ao n0 cap, .slice s1 p1 c1, .slice s2 p2 c2] 27) := ⟨_, rfl⟩
 obtain ⟨WB, hWB⟩ : ∃ W, W = WA.alloc (.cells #[.slice eo n ecap, .slice ado m dcap, .slice s3 p3 c3, .slice s4 p4 c4] 29) := ⟨_, rfl⟩
 obtain ⟨W4, hW4⟩ : ∃ W, W = WB.alloc (.cells #[.slice none 0 0, .slice none 0 0, .slice none 0 0] 27) := ⟨_, rfl⟩
 have sA : WA.heap.size = w.heap.size + 1 := by rw [hWA]; simp
 have sB : WB.heap.size = w.heap.size + 2 := by rw [hWB]; simp [sA]
 have bA : Below w.heap.size w WA := by rw [hWA]; exact below1
 have bB : Below WA.heap.size WA WB := by rw [hWB]; exact below1
 have bC : Below WB.heap.size WB W4 := by rw [hW4]; exact below1
 have b2 : Below WA.heap.size WA W4 := bB.trans (bC.mono bB.size)
 have b4 : Below w.heap.size w W4 := bA.trans (b2.mono bA.size)
 have x0 : W4.heap[w.heap.size]? = some (.cells #[.slice ao n0 cap, .slice s1 p1 c1, .slice s2 p2 c2] 27) := (b2.block _ (by omega)).trans (by rw [hWA]; exact heap_alloc_new w _)
 have x1 : W4.heap[w.heap.size + 1]? = some (.cells #[.slice eo n ecap, .slice ado m dcap, .slice s3 p3 c3, .slice s4 p4 c4] 29) := (bC.block _ (by omega)).trans (by rw [hWB, ← sA]; exact heap_alloc_new WA _)
 have x2 : W4.heap[w.heap.size + 2]? = some (.cells #[.slice none 0 0, .slice none 0 0, .slice none 0 0] 27) := by rw [hW4, ← sB]; exact heap_alloc_new WB _
 subst hWA hWB
 have HW4 := Lib.hid hW4
 have X0 := Lib.hid x0
 have X1 := Lib.hid x1
 have X2 := Lib.hid x2
 have HB4 := Lib.hid b4
 have HE := Lib.hid (Cells.next h b4)
 have HC := Lib.hid (hc.next b4)
 have HU := Lib.hid (Cells.next hu b4)
 have HA := Lib.hid (Cells.next ha b4)
 have HD := Lib.hid (hdc.next b4)
 have HRS := Lib.hid hr
 have HRD := Lib.hid hrd
 have HT := Lib.hid ht
 have HMX := Lib.hid (MX.next hm b4)
 have HTW : Hid (∀ (x : Ent) (W : World), Calls Tryz.prog 33 #[.agg #[.string x.s, .int .i64 x.d.1, .int .i64 x.d.2, .int .i64 x.t, .slice none 0 0]] W fun e w' => e = .returned (.agg #[.string x.s, .int .i64 x.d.1, .int .i64 x.d.2, .int .i64 x.t, .slice none 0 0]) ∧ Below W.heap.size W w') := fun x W => twent_any x W
 clear h hc hu ha hdc hr hrd ht hm sA sB bA bB bC b2 b4 x0 x1 x2 hW4
 have HR := Lib.hid (oright_yes l c _ _ _ W4 HE.out HC.out HRS.out HMX.out)
 go_enter Tryz.func24, Tryz.ntmps24
 go_wp2_with fail
 rw [← HW4.out]
 (with_reducible refine HR.out.mono ?_)
 rintro e w5 ⟨rfl, hb5⟩
 have HB5 := Lib.hid hb5
 have HRDL := Lib.hid (rdelta_yes L A dc _ _ _ _ w5 (Cells.next HU.out hb5) (Cells.next HA.out hb5) (HD.out.next hb5) HRD.out (by omega) (MX.next HMX.out hb5))
 have y1 := (hb5.block _ (lt_of_block X1.out)).trans X1.out
 have e0 := boxc y1 0 _ rfl
 have e1 := boxc y1 1 _ rfl
 have e2 := boxc y1 2 _ rfl
 have e3 := boxc y1 3 _ rfl
 clear y1 hb5 HR
 go_wp2_with fail
 (with_reducible refine HRDL.out.mono ?_)
 rintro e w6 ⟨rfl, hb6⟩
 have HB6 := Lib.hid (HB5.out.trans (hb6.mono HB5.out.size))
 have HTL := Lib.hid (told_yes L A c (.slice ao n0 cap) _ _ _ _ (.slice s3 p3 c3) (.slice s4 p4 c4) w6 (HC.out.next HB6.out) (Cells.next HU.out HB6.out) (Cells.next HA.out HB6.out) (by omega) (by omega) (fun y hy => (HRD.out.set.fine y hy).ok) (fun d hd => knows_valid (HRD.out.kn d hd)) HT.out)
 have y1 := (HB6.out.block _ (lt_of_block X1.out)).trans X1.out
 have y0 := (HB6.out.block _ (lt_of_block X0.out)).trans X0.out
 have e0 := boxc y1 0 _ rfl
 have e1 := boxc y1 1 _ rfl
 have e2 := boxc y1 2 _ rfl
 have e3 := boxc y1 3 _ rfl
 have i0 := boxc y0 0 _ rfl
 have i1 := boxc y0 1 _ rfl
 have i2 := boxc y0 2 _ rfl
 clear y1 y0 hb6 HRDL
 go_wp2_with fail
 (with_reducible refine HTL.out.mono ?_)
 rintro e w7 ⟨rfl, hb7⟩
 have HB7 := Lib.hid (HB6.out.trans (hb7.mono HB6.out.size))
 have HPL := Lib.hid (places_any A _ w7 (Cells.next HA.out HB7.out) (by omega) (fun d hd => knows_valid (HRD.out.kn d hd)))
 have y1 := (HB7.out.block _ (lt_of_block X1.out)).trans X1.out
 have e1 := boxc y1 1 _ rfl
 clear y1 hb7 HTL e0 e2 e3 i0 i1 i2
 go_wp2_with fail
 (with_reducible refine HPL.out.mono ?_)
 rintro e w8 ⟨mb, rfl, ⟨D, hDD, hO, hmb⟩, hb8⟩
 have HB8 := Lib.hid (HB7.out.trans (hb8.mono HB7.out.size))
 obtain ⟨b5, hb5e⟩ : ∃ b, b = w8.heap.size := ⟨_, rfl⟩
 obtain ⟨w9, hw9⟩ : ∃ W, W = w8.alloc (.cells #[.map (some mb)] 81) := ⟨_, rfl⟩
 have hb9 : Below w8.heap.size w8 w9 := by rw [hw9]; exact below1
 have x5 : w9.heap[b5]? = some (.cells #[.map (some mb)] 81) := by rw [hw9, hb5e]; exact heap_alloc_new w8 _
 have HB9 := Lib.hid (HB8.out.trans (hb9.mono HB8.out.size))
 have y1 := (HB9.out.block _ (lt_of_block X1.out)).trans X1.out
 have HAK := Lib.hid (asks_dead A dc b5 (w.heap.size + 1) mb A.length D _ _ w9 (boxc x5 0 _ rfl) (boxc y1 2 _ rfl) (boxc y1 3 _ rfl) (HD.out.next HB9.out) hDD (own_map_keep hO hb9))
 have HPT := Lib.hid (part_any 57 #[.pointer (some ⟨b5, 0, none⟩), .pointer (some ⟨w.heap.size + 1, 0, none⟩)] (deadF A dc) l _ w9 (Cells.next HE.out HB9.out) (by omega) HAK.out (fun y hy => (HRS.out.fine y hy).ok))
 have y0 := (HB9.out.block _ (lt_of_block X0.out)).trans X0.out
 have i0 := boxc y0 0 _ rfl
 have HW9 := Lib.hid hw9
 have HB5E := Lib.hid hb5e
 rw [hw9] at i0
 clear y1 y0 x5 hb9 hw9 hb5e hDD hO hmb hb8 HPL e1
 go_wp2_with fail
 rw [← HW9.out, ← HB5E.out]
 clear i0
 (with_reducible refine HPT.out.mono ?_)
 rintro e wP ⟨a6, n6, c6, b8, m8, d8, rfl, hn6, hm8, hoE, _, hbP⟩
 unfold OwnE at hoE
 rw [← hn6] at hoE
 have hn6l : n6 ≤ 1000 := by rw [hn6]; exact Nat.le_trans (stays_len _ _) hl
 have HN6' := Lib.hid hn6
 have HOE := Lib.hid hoE
 have HBP := Lib.hid hbP
 have HB9P := Lib.hid (HB9.out.trans (hbP.mono HB9.out.size))
 have y1 := (HB9P.out.block _ (lt_of_block X1.out)).trans X1.out
 have e0 := boxc y1 0 _ rfl
 clear hoE hbP y1 hn6 hm8 HPT HAK
 go_wp2
 go_loopw [6, 38] (fun s i wr => ∃ (k : Nat) (a : Option Addr) (q cq : Nat), s = .slice a q cq ∧ i = .int .i64 k ∧ k ≤ n ∧ q ≤ 1000 + k ∧ Hid (q = (staysOf (deadF A dc) l ++ newOf c (L.take k)).length) ∧ Hid (wr.ownsRow w9.heap.size 54 5 (.slice a q cq) q (ecells (staysOf (deadF A dc) l ++ newOf c (L.take k)))) ∧ Hid (Below w9.heap.size w9 wr)) (fun _ i _ => n - (intOf i).toNat)
 case atStart => exact ⟨0, a6, n6, c6, rfl, rfl, by omega, by omega, by show _ = _; rw [HN6'.out]; simp [newOf], by show World.ownsRow _ _ _ _ _ _ _; have := HOE.out; simpa [newOf] using this, HBP.out⟩
 case round =>
  obtain ⟨k, a, q, cq, rfl, rfl, hk, hq, HQN, HO, HB⟩ := hrel
  clear e0
  have HBW := Lib.hid (HB9.out.trans (HB.out.mono HB9.out.size))
  have hz : w9.heap.size ≤ wr.heap.size := HB.out.size
  by_cases hlt : k < n
  ·
   have hkI : (k : Int) < (n : Int) := by omega
   obtain ⟨bb, off, rfl, hbB, q0, q1, q2, q3, q4⟩ := Ents.get (Cells.next HU.out HBW.out) HN.out hlt
   obtain ⟨x, hx⟩ : ∃ x, x = L.getD k default := ⟨_, rfl⟩
   rw [← hx] at q0 q1 q2 q3
   have HX : Hid (L.take (k + 1) = L.take k ++ [x]) := by
    show _ = _
    rw [hx]; exact take_one L k default (by rw [← HN.out]; exact hlt)
   obtain ⟨g0, hg0⟩ : ∃ q, q = wr.heap.size := ⟨_, rfl⟩
   obtain ⟨WE, hWE⟩ : ∃ W1, W1 = wr.alloc (.cells #[.string x.s, .int .i64 x.d.1, .int .i64 x.d.2, .int .i64 x.t, .slice none 0 0] 54) := ⟨_, rfl⟩
   have hb1 : Below wr.heap.size wr WE := by rw [hWE]; exact below1
   have y1 : WE.heap[g0]? = some (.cells #[.string x.s, .int .i64 x.d.1, .int .i64 x.d.2, .int .i64 x.t, .slice none 0 0] 54) := by rw [hWE, hg0]; exact heap_alloc_new wr _
   have hbE := HBW.out.trans (hb1.mono HBW.out.size)
   have y0 := (hbE.block _ (lt_of_block X0.out)).trans X0.out
   have i1 := boxc y0 1 _ rfl
   have i2 := boxc y0 2 _ rfl
   have HHS := Lib.hid (has_any c x.d _ WE (HC.out.next hbE))
   have Y1 := Lib.hid y1
   have HOW := Lib.hid (own_stay HO.out hb1)
   have HBE := Lib.hid (HB.out.trans (hb1.mono HB.out.size))
   have HWE := Lib.hid hWE
   have HG0 := Lib.hid hg0
   rw [hWE] at i1 i2
   clear hx hb1 y1 hbE y0 hWE hg0
   go_wp2_with fail
   rw [← HWE.out, ← HG0.out]
   clear i1 i2 q0 q1 q2 q3 q4
   (with_reducible refine HHS.out.mono ?_)
   rintro e wH ⟨rfl, hbH⟩
   have HOH := Lib.hid (own_stay HOW.out hbH)
   have HBH := Lib.hid (HBE.out.trans (hbH.mono HBE.out.size))
   have y1 := (hbH.block _ (lt_of_block Y1.out)).trans Y1.out
   have q0 := boxc y1 0 _ rfl
   have q1 := boxc y1 1 _ rfl
   have q2 := boxc y1 2 _ rfl
   have q3 := boxc y1 3 _ rfl
   have q4 := boxc y1 4 _ rfl
   clear y1 hbH HHS HOW HBE
   cases hk2 : dm.hasF c x.d
   ·
    have HNW : Hid (newOf c (L.take (k + 1)) = newOf c (L.take k) ++ [x]) := by show _ = _; rw [HX.out, newOf_snoc, hk2]; rfl
    clear hk2
    go_wp2_with fail
    (with_reducible refine (HTW.out x _).mono ?_)
    rintro e wT ⟨rfl, hbT⟩
    have HOT := Lib.hid (own_stay HOH.out hbT)
    have HBT := Lib.hid (HBH.out.trans (hbT.mono HBH.out.size))
    have hzT : w9.heap.size ≤ wT.heap.size := HBT.out.size
    clear hbT q0 q1 q2 q3 q4 HOH HBH
    go_wp2_with (at_builtin; refine app1g (.tmp 48) (.tmp 51) 22 rfl rfl w9.heap.size Tryz.underlying22 infoEnt rfl (by decide) (by decide) HOT.out rfl rfl rfl (by intro u hu; simp at hu; rcases hu with rfl | rfl | rfl | rfl | rfl <;> rfl) (by omega) hzT ?_)
    intro v' wU hown hgU
    have hbA : Below w9.heap.size w9 (wT.alloc (.cells #[.string x.s, .int .i64 x.d.1, .int .i64 x.d.2, .int .i64 x.t, .slice none 0 0] 54)) := HBT.out.alloc hzT _
    have hoA := World.ownsRow.alloc HOT.out (.cells #[.string x.s, .int .i64 x.d.1, .int .i64 x.d.2, .int .i64 x.t, .slice none 0 0] 54)
    have HBU := Lib.hid (hbA.trans (grown_below hoA hbA.size hgU))
    obtain ⟨aU, cU, rfl⟩ := own_slice hown
    have HOU : Hid (wU.ownsRow w9.heap.size 54 5 (.slice aU (q + 1) cU) (q + 1) (ecells (staysOf (deadF A dc) l ++ newOf c (L.take (k + 1))))) := by
     show World.ownsRow _ _ _ _ _ _ _
     rw [HNW.out, ← List.append_assoc, ecells_app]; exact hown
    have HQ2 : Hid (q + 1 = (staysOf (deadF A dc) l ++ newOf c (L.take (k + 1))).length) := by
     show _ = _
     rw [HNW.out, ← List.append_assoc, List.length_append, ← HQN.out]; rfl
    clear hown hgU hbA hoA HOT HBT
    go_wp2
    go_roundw
    case rel => exact ⟨k + 1, aU, q + 1, cU, rfl, by go_num, by omega, by omega, HQ2, HOU, HBU⟩
    case measure => simp [intOf]; omega
   ·
    have HNW : Hid (newOf c (L.take (k + 1)) = newOf c (L.take k)) := by show _ = _; rw [HX.out, newOf_snoc, hk2]; rfl
    have HOU : Hid (wH.ownsRow w9.heap.size 54 5 (.slice a q cq) q (ecells (staysOf (deadF A dc) l ++ newOf c (L.take (k + 1))))) := by
     show World.ownsRow _ _ _ _ _ _ _
     rw [HNW.out]; exact HOH.out
    have HQ2 : Hid (q = (staysOf (deadF A dc) l ++ newOf c (L.take (k + 1))).length) := by
     show _ = _
     rw [HNW.out, ← HQN.out]
    clear hk2
    go_wp2
    go_roundw
    case rel => exact ⟨k + 1, a, q, cq, rfl, by go_num, by omega, by omega, HQ2, HOU, HBH⟩
    case measure => simp [intOf]; omega
  ·
   obtain ⟨L1, hL1⟩ : ∃ X, X = staysOf (deadF A dc) l ++ newOf c L := ⟨_, rfl⟩
   have hTK : L.take k = L := List.take_of_length_le (by rw [← HN.out]; omega)
   have hoL : wr.ownsRow w9.heap.size 54 5 (.slice a q cq) q (ecells L1) := by
    have := HO.out
    rwa [hTK, ← hL1] at this
   have hqL : q = L1.length := by
    have := HQN.out
    rwa [hTK, ← hL1] at this
   have HSO := Lib.hid (byd_any _ q w9.heap.size L1 wr hoL hqL hz (by omega) (by rw [hL1]; exact nodup_app HRS.out HRD.out.set.up))
   have HOL := Lib.hid hoL
   have HL1 := Lib.hid hL1
   have HQL := Lib.hid hqL
   clear hTK hoL hqL hL1
   go_wp2_with fail
   (with_reducible refine HSO.out.mono ?_)
   rintro e wS ⟨rfl, L2, hp, hup, ho2, hgS⟩
   have HPM : Hid (L2.Perm (staysOf (deadF A dc) l ++ newOf c L)) := by
    show List.Perm _ _
    rw [← HL1.out]; exact hp
   have HUP := Lib.hid hup
   have HBS := Lib.hid (HB.out.trans (grown_below HOL.out hz hgS))
   have HBS4 := Lib.hid (HB9.out.trans (HBS.out.mono HB9.out.size))
   have hln : q = L2.length := by rw [HQL.out, ← hp.length_eq]
   have hE : EntO w9.heap.size wS (.slice a q cq) L2 := by
    unfold EntO
    rwa [← hln]
   have HE2 := Lib.hid hE
   have HJN := Lib.hid (join_own c dc _ _ wS (HC.out.next HBS4.out) (HD.out.next HBS4.out) HRS.out.right HRD.out.set.right (by omega) (by omega))
   have y0 := (HBS4.out.block _ (lt_of_block X0.out)).trans X0.out
   have y1 := (HBS4.out.block _ (lt_of_block X1.out)).trans X1.out
   have i1 := boxc y0 1 _ rfl
   have i2 := boxc y0 2 _ rfl
   have e2 := boxc y1 2 _ rfl
   have e3 := boxc y1 3 _ rfl
   clear hp hup ho2 hgS hln hE y0 y1 HSO HOL HL1 HQL HO HQN
   go_wp2_with fail
   (with_reducible refine HJN.out.mono ?_)
   rintro e wJ ⟨vJ, cJ, rfl, hcJ, hsJ, hbJ⟩
   obtain ⟨f1a, f1b, f1c, f1d, f1e, f1f, rfl⟩ := hcJ.form
   clear i1 i2 e2 e3
   have hB := HBS4.out.trans (hbJ.mono HBS4.out.size)
   obtain ⟨r2, hr2⟩ : ∃ r, r = w.heap.size + 1 + 1 := ⟨_, rfl⟩
   have y2 : wJ.heap[r2]? = some (.cells #[.slice none 0 0, .slice none 0 0, .slice none 0 0] 27 (0, 0)) := by rw [hr2]; exact (hB.block _ (lt_of_block X2.out)).trans X2.out
   have sb := sl_blk3 y2
   have hE9 : EntO w.heap.size wJ (.slice a q cq) L2 := (HE2.out.on hbJ).low (Nat.le_trans HB4.out.size HB9.out.size)
   obtain ⟨W3, hW3⟩ : ∃ W, W = ((wJ.setCell ⟨r2, 0, none⟩ (.slice a q cq)).setCell ⟨r2, 1, none⟩ (.slice f1a f1b f1c)).setCell ⟨r2, 2, none⟩ (.slice f1d f1e f1f) := ⟨_, rfl⟩
   have hs3 : W3.heap.size = wJ.heap.size := by rw [hW3]; simp
   have hk3 : Kt 27 wJ W3 := by rw [hW3]; exact set3_kt y2 _ _ _
   have hE3 := hE9.kt hk3 (by decide)
   have hC3 := (hcJ.kt hk3 (by decide)).low (Nat.le_trans HB4.out.size HBS4.out.size)
   have hv2 : W3.heap[r2]? = some (.cells #[.slice a q cq, .slice f1a f1b f1c, .slice f1d f1e f1f] 27 (0, 0)) := by
    rw [hW3]
    exact heap_setCell_same _ r2 2 _ _ _ (heap_setCell_same _ r2 1 _ _ _ (heap_setCell_same _ r2 0 _ _ _ y2))
   have hz2 : w.heap.size ≤ r2 := by omega
   have hb3 : Below w.heap.size w W3 := by
    rw [hW3]; exact (((HB4.out.trans (hB.mono HB4.out.size)).setCell hz2 _).setCell hz2 _).setCell hz2 _
   have HRET : Hid (ApplyP l c L A dc w (.returned (.agg #[.slice a q cq, .slice f1a f1b f1c, .slice f1d f1e f1f])) W3) :=
    ⟨_, _, _, L2, cJ, rfl, hE3, hC3, HPM.out, HUP.out, hsJ, hb3⟩
   have j0 := boxc y2 0 _ rfl
   have j1 := boxc y2 1 _ rfl
   have j2 := boxc y2 2 _ rfl
   have fj0 := boxf y2 0
   have fj1 := boxf y2 1
   have fj2 := boxf y2 2
   have HV2 := Lib.hid hv2
   have HW3 := Lib.hid hW3
   clear hB y2 sb hE9 hk3 hs3 hE3 hC3 hv2 hz2 hb3 hcJ hsJ hbJ hW3
   rw [← hr2]
   clear hr2
   go_wp2_with fail
   rw [← HW3.out]
   have s0 := boxc HV2.out 0 _ rfl
   have s1' := boxc HV2.out 1 _ rfl
   have s2' := boxc HV2.out 2 _ rfl
   exact bodyPost_ret (v := .agg #[.slice a q cq, .slice f1a f1b f1c, .slice f1d f1e f1f]) (by simp [results, Tryz.results24, go_sem, s0, s1', s2']) rfl HRET.out
end Go.Proofs.YtonknpdalemjkaaGreat
namespace Go.Proofs.YtonknpdalemjkaaGreat
open Go Go.RowKit Go.ChangeShapes cl
theorem up_ext {a b : List Ent} (ha : os.Up a) (hb : os.Up b) (h : ∀ x, x ∈ a ↔ x ∈ b) : a = b := by
 induction a generalizing b with
 | nil =>
  cases b with
  | nil => rfl
  | cons y r => exact absurd ((h y).2 List.mem_cons_self) (by simp)
 | cons x l ih =>
  cases b with
  | nil => exact absurd ((h x).1 List.mem_cons_self) (by simp)
  | cons y r =>
   have ha' := List.pairwise_cons.1 ha
   have hb' := List.pairwise_cons.1 hb
   have hxy : x = y := by
    rcases List.mem_cons.1 ((h x).1 List.mem_cons_self) with e | e
    ·
     exact e
    ·
     rcases List.mem_cons.1 ((h y).2 List.mem_cons_self) with e2 | e2
     ·
      exact e2.symm
     ·
      exact (dm.dless_irrefl _ (dm.dless_trans (ha'.1 y e2) (hb'.1 x e))).elim
   subst hxy
   refine congrArg _ (ih ha'.2 hb'.2 fun z => ?_)
   constructor
   ·
    intro hz
    rcases List.mem_cons.1 ((h z).1 (List.mem_cons_of_mem _ hz)) with e | e
    ·
     have := ha'.1 z hz
     rw [e] at this
     exact (dm.dless_irrefl _ this).elim
    ·
     exact e
   ·
    intro hz
    rcases List.mem_cons.1 ((h z).2 (List.mem_cons_of_mem _ hz)) with e | e
    ·
     have := hb'.1 z hz
     rw [e] at this
     exact (dm.dless_irrefl _ this).elim
    ·
     exact e
theorem up_dot {l : List Ent} (h : os.Up l) {x y : Ent} (hx : x ∈ l) (hy : y ∈ l) (e : x.d = y.d) : x = y := by
 induction l with
 | nil => cases hx
 | cons z r ih =>
  have h' := List.pairwise_cons.1 h
  rcases List.mem_cons.1 hx with hx2 | hx2
  ·
   rcases List.mem_cons.1 hy with hy2 | hy2
   ·
    rw [hx2, hy2]
   ·
    have := h'.1 y hy2
    rw [← hx2, e] at this
    exact (dm.dless_irrefl _ this).elim
  ·
   rcases List.mem_cons.1 hy with hy2 | hy2
   ·
    have := h'.1 x hx2
    rw [← hy2, e] at this
    exact (dm.dless_irrefl _ this).elim
   ·
    exact ih h'.2 hx2 hy2
theorem mem_stays {p : Ent → Bool} {l : List Ent} {x : Ent} : x ∈ staysOf p l ↔ x ∈ l ∧ p x = false := by
 unfold staysOf
 rw [List.mem_filter]
 cases p x <;> simp
theorem mem_new {c : dm.Ctx} {l : List Ent} {x : Ent} : x ∈ newOf c l ↔ x ∈ l ∧ ¬ dm.Knows c x.d := by
 unfold newOf
 rw [List.mem_filter, ← dm.hasF_iff]
 cases dm.hasF c x.d <;> simp
end Go.Proofs.YtonknpdalemjkaaGreat
namespace Go.Proofs.YtonknpdalemjkaaGreat
open Go Go.RowKit Go.ChangeShapes cl
theorem rset_add {l L1 : List Ent} {c c' : dm.Ctx} {x : Ent} {p : Ent → Bool} {m : Nat} (hr : RSet l c) (hx : os.Fine x) (h1 : L1.Perm (staysOf p l ++ [x])) (u1 : os.Up L1) (hc : dm.Is c' (fun e => dm.Knows c e ∨ e = x.d) m) : RSet L1 c' := by
 have hm : ∀ y ∈ L1, y ∈ l ∨ y = x := fun y hy => by
  rcases List.mem_append.1 (h1.mem_iff.1 hy) with h | h
  ·
   exact Or.inl (mem_stays.1 h).1
  ·
   exact Or.inr (List.mem_singleton.1 h)
 refine ⟨hc.right, u1, fun y hy => ?_, fun y hy => ?_⟩
 ·
  rcases hm y hy with h | rfl
  ·
   exact hr.fine y h
  ·
   exact hx
 ·
  rcases hm y hy with h | rfl
  ·
   exact (hc.know _).2 (Or.inl (hr.kn y h))
  ·
   exact (hc.know _).2 (Or.inr rfl)
theorem rset_drop {l : List Ent} {c c' : dm.Ctx} {d : Dot} {p : Ent → Bool} {m : Nat} (hr : RSet l c) (hc : dm.Is c' (fun e => dm.Knows c e ∨ e = d) m) : RSet (staysOf p l) c' :=
 ⟨hc.right, hr.up.sublist List.filter_sublist, fun y hy => hr.fine y (mem_stays.1 hy).1, fun y hy => (hc.know _).2 (Or.inl (hr.kn y (mem_stays.1 hy).1))⟩
theorem rset_apply {l L L2 : List Ent} {A : List Dot} {c c' dc : dm.Ctx} {m : Nat} (hr : RSet l c) (hd : RDel L A dc) (h2 : L2.Perm (staysOf (deadF A dc) l ++ newOf c L)) (u2 : os.Up L2) (hc : dm.Is c' (fun e => dm.Knows c e ∨ dm.Knows dc e) m) : RSet L2 c' := by
 have hm : ∀ y ∈ L2, y ∈ l ∨ y ∈ L := fun y hy => by
  rcases List.mem_append.1 (h2.mem_iff.1 hy) with h | h
  ·
   exact Or.inl (mem_stays.1 h).1
  ·
   exact Or.inr (mem_new.1 h).1
 refine ⟨hc.right, u2, fun y hy => ?_, fun y hy => ?_⟩
 ·
  rcases hm y hy with h | h
  ·
   exact hr.fine y h
  ·
   exact hd.set.fine y h
 ·
  rcases hm y hy with h | h
  ·
   exact (hc.know _).2 (Or.inl (hr.kn y h))
  ·
   exact (hc.know _).2 (Or.inr (hd.set.kn y h))
theorem nodup_len {a b : List Dot} (hn : a.Nodup) (hs : ∀ x ∈ a, x ∈ b) : a.length ≤ b.length := by
 induction a generalizing b with
 | nil => simp
 | cons x r ih =>
  have hc := List.nodup_cons.1 hn
  have hx : x ∈ b := hs x List.mem_cons_self
  have h1 := ih (b := b.erase x) hc.2 (fun y hy => (List.mem_erase_of_ne (fun e => hc.1 (by rw [← e]; exact hy))).2 (hs y (List.mem_cons_of_mem _ hy)))
  rw [List.length_erase_of_mem hx] at h1
  have h2 := List.length_pos_of_mem hx
  rw [List.length_cons]; omega
theorem cloud_len {c : dm.Ctx} {U : List Dot} (hr : dm.Right c) (hu : ∀ d, dm.Knows c d → d ∈ U) : c.2.length ≤ U.length := by
 have hn : c.2.Nodup := by
  refine hr.cup.imp fun {a b} h e => ?_
  rw [e] at h
  exact dm.dless_irrefl _ h
 have hs : ∀ d ∈ c.2, d ∈ U := fun d hd => hu d (by
  refine dm.hasF_iff.1 ?_
  unfold dm.hasF
  rw [(hr.cok d hd).1]
  simp [hd])
 exact nodup_len hn hs
end Go.Proofs.YtonknpdalemjkaaGreat
namespace Go.Proofs.YtonknpdalemjkaaGreat
open Go Go.RowKit Go.ChangeShapes cl
def upd {α : Type} (f : Nat → α) (i : Nat) (x : α) : Nat → α := fun j => if j = i then x else f j
theorem upd_same {α : Type} (f : Nat → α) (i : Nat) (x : α) : upd f i x i = x := if_pos rfl
theorem upd_other {α : Type} (f : Nat → α) {i j : Nat} (x : α) (h : j ≠ i) : upd f i x j = f j := if_neg h
theorem right_nil : dm.Right ([], []) := ⟨(fun d hd => by cases hd), List.Pairwise.nil, (fun d hd => by cases hd), List.Pairwise.nil⟩
theorem kn_nil (d : Dot) : ¬ dm.Knows ([], []) d := fun hd => by
 have h1 : dm.kn [] d.1 = 0 := rfl
 have h2 := (dm.valid_iff d).1 hd.1
 have h3 := hd.2
 simp only [h1, List.not_mem_nil, or_false] at h3
 omega
def mrg (l : List Ent) (c : dm.Ctx) (L : List Ent) (C : dm.Ctx) : List Ent := staysOf (deadF (L.map Ent.d) C) l ++ newOf c (newOf c L)
theorem tdead_iff {A : List Dot} {c : dm.Ctx} {x : Ent} : deadF A c x = false ↔ x.d ∈ A ∨ ¬ dm.Knows c x.d := by
 unfold deadF
 rw [← dm.hasF_iff]
 by_cases h : x.d ∈ A <;> cases h2 : dm.hasF c x.d <;> simp [h]
theorem mem_mrg {l L : List Ent} {c C : dm.Ctx} {x : Ent} : x ∈ mrg l c L C ↔ (x ∈ l ∧ (x.d ∈ L.map Ent.d ∨ ¬ dm.Knows C x.d)) ∨ (x ∈ L ∧ ¬ dm.Knows c x.d) := by
 unfold mrg
 rw [List.mem_append, mem_stays, mem_new, mem_new, tdead_iff]
 constructor
 ·
  rintro (h | ⟨⟨h1, h2⟩, _⟩)
  ·
   exact Or.inl h
  ·
   exact Or.inr ⟨h1, h2⟩
 ·
  rintro (h | ⟨h1, h2⟩)
  ·
   exact Or.inl h
  ·
   exact Or.inr ⟨⟨h1, h2⟩, h2⟩
theorem rdel_since {L : List Ent} {C : dm.Ctx} (h : RSet L C) (c : dm.Ctx) : RDel (newOf c L) (L.map Ent.d) C :=
 ⟨⟨h.right, h.up.sublist List.filter_sublist, fun x hx => h.fine x (mem_new.1 hx).1, fun x hx => h.kn x (mem_new.1 hx).1⟩, List.pairwise_map.2 h.up, fun d hd => by
  obtain ⟨x, hx, rfl⟩ := List.mem_map.1 hd
  exact h.kn x hx, fun x hx => List.mem_map.2 ⟨x, (mem_new.1 hx).1, rfl⟩⟩
theorem told_since (L : List Ent) (c : dm.Ctx) : ∀ d ∈ L.map Ent.d, d ∈ (newOf c L).map Ent.d ∨ dm.Knows c d := fun d hd => by
 obtain ⟨x, hx, rfl⟩ := List.mem_map.1 hd
 by_cases h : dm.Knows c x.d
 ·
  exact Or.inr h
 ·
  exact Or.inl (List.mem_map.2 ⟨x, mem_new.2 ⟨hx, h⟩, rfl⟩)
def Agree (l L : List Ent) : Prop := ∀ x ∈ l, ∀ y ∈ L, x.d = y.d → x = y
theorem Agree.symm {l L : List Ent} (h : Agree l L) : Agree L l := fun x hx y hy e => (h y hy x hx e.symm).symm
theorem agree_self {l : List Ent} (h : os.Up l) : Agree l l := fun _ hx _ hy e => up_dot h hx hy e
theorem mrg_symm {l L : List Ent} {c C : dm.Ctx} (ha : Agree l L) (x : Ent) (hx : x ∈ mrg l c L C) : x ∈ mrg L C l c := by
 rcases mem_mrg.1 hx with ⟨h1, h2 | h2⟩ | ⟨h1, h2⟩
 ·
  obtain ⟨y, hy, e⟩ := List.mem_map.1 h2
  have := ha x h1 y hy e.symm
  subst this
  exact mem_mrg.2 (Or.inl ⟨hy, Or.inl (List.mem_map.2 ⟨x, h1, rfl⟩)⟩)
 ·
  exact mem_mrg.2 (Or.inr ⟨h1, h2⟩)
 ·
  exact mem_mrg.2 (Or.inl ⟨h1, Or.inr h2⟩)
theorem mrg_iff {l L : List Ent} {c C : dm.Ctx} (ha : Agree l L) (x : Ent) : x ∈ mrg l c L C ↔ x ∈ mrg L C l c := ⟨mrg_symm ha x, mrg_symm ha.symm x⟩
theorem mrg_back {l L M : List Ent} {c C D : dm.Ctx} (hr : RSet L C) (ha : Agree l L) (hM : ∀ x, x ∈ M ↔ x ∈ mrg l c L C) (hD : ∀ d, dm.Knows C d → dm.Knows D d) (x : Ent) : x ∈ mrg L C M D ↔ x ∈ M := by
 rw [mem_mrg]
 constructor
 ·
  rintro (⟨h1, h2 | h2⟩ | ⟨h1, _⟩)
  ·
   obtain ⟨y, hy, e⟩ := List.mem_map.1 h2
   have hyx : y = x := by
    rcases mem_mrg.1 ((hM y).1 hy) with h | h
    ·
     exact ha y h.1 x h1 e
    ·
     exact up_dot hr.up h.1 h1 e
   rw [← hyx]; exact hy
  ·
   exact absurd (hD _ (hr.kn x h1)) h2
  ·
   exact h1
 ·
  intro h
  by_cases hk : dm.Knows C x.d
  ·
   have hL : x ∈ L := by
    rcases mem_mrg.1 ((hM x).1 h) with ⟨h1, h2 | h2⟩ | ⟨h1, _⟩
    ·
     obtain ⟨y, hy, e⟩ := List.mem_map.1 h2
     rw [ha x h1 y hy e.symm]; exact hy
    ·
     exact absurd hk h2
    ·
     exact h1
   exact Or.inl ⟨hL, Or.inl (List.mem_map.2 ⟨x, h, rfl⟩)⟩
  ·
   exact Or.inr ⟨h, hk⟩
theorem mrg_again {l L M : List Ent} {c C D : dm.Ctx} (hr : RSet L C) (hM : ∀ x, x ∈ M ↔ x ∈ mrg l c L C) (hD : ∀ d, dm.Knows c d ∨ dm.Knows C d ↔ dm.Knows D d) (x : Ent) : x ∈ mrg M D L C ↔ x ∈ M := by
 rw [mem_mrg]
 constructor
 ·
  rintro (⟨h1, _⟩ | ⟨h1, h2⟩)
  ·
   exact h1
  ·
   exact absurd ((hD _).1 (Or.inr (hr.kn x h1))) h2
 ·
  intro h
  refine Or.inl ⟨h, ?_⟩
  by_cases hk : dm.Knows C x.d
  ·
   refine Or.inl ?_
   rcases mem_mrg.1 ((hM x).1 h) with ⟨h1, h2 | h2⟩ | ⟨h1, _⟩
   ·
    exact h2
   ·
    exact absurd hk h2
   ·
    exact List.mem_map.2 ⟨x, h1, rfl⟩
  ·
   exact Or.inr hk
structure TS where
 l : Nat → List Ent
 c : Nat → dm.Ctx
 made : Nat → Nat
def TS.Done (s : TS) (d : Dot) : Prop := ∃ i, i < 2 ∧ d.1 = ((i : Nat) : Int) ∧ 1 ≤ d.2 ∧ d.2 ≤ (s.made i : Int)
def TS.nd (s : TS) (i : Nat) : Dot := (((i : Nat) : Int), (s.made i : Int) + 1)
structure TInv (n : Nat) (s : TS) : Prop where
 set : ∀ i, i < 2 → RSet (s.l i) (s.c i)
 len1 : ∀ i, i < 2 → (s.c i).1.length ≤ 16
 kn : ∀ i, i < 2 → ∀ d, dm.Knows (s.c i) d → s.Done d
 same : ∀ i j, i < 2 → j < 2 → Agree (s.l i) (s.l j)
 sum : s.made 0 + s.made 1 ≤ n
theorem TInv.mono {n m : Nat} {s : TS} (h : TInv n s) (hm : n ≤ m) : TInv m s := ⟨h.set, h.len1, h.kn, h.same, Nat.le_trans h.sum hm⟩
def TS.U (s : TS) : List Dot := (List.range 2).flatMap fun i => (List.range (s.made i)).map fun m => (((i : Nat) : Int), ((m : Nat) : Int) + 1)
theorem TS.U_len (s : TS) : s.U.length = s.made 0 + s.made 1 := by
 have : List.range 2 = [0, 1] := rfl
 unfold TS.U
 rw [this]
 simp only [List.flatMap_cons, List.flatMap_nil, List.length_append, List.length_map, List.length_range, List.length_nil]
 omega
theorem TS.mem_U {s : TS} {d : Dot} (h : s.Done d) : d ∈ s.U := by
 obtain ⟨i, hi, h1, h2, h3⟩ := h
 refine List.mem_flatMap.2 ⟨i, List.mem_range.2 hi, List.mem_map.2 ⟨(d.2 - 1).toNat, List.mem_range.2 (by omega), ?_⟩⟩
 have e : (((d.2 - 1).toNat : Nat) : Int) + 1 = d.2 := by omega
 rw [e, ← h1]
theorem TInv.cloud {n : Nat} {s : TS} (h : TInv n s) {i : Nat} (hi : i < 2) : (s.c i).2.length ≤ n := by
 have := cloud_len (U := s.U) (h.set i hi).right (fun d hd => TS.mem_U (h.kn i hi d hd))
 rw [TS.U_len] at this
 exact Nat.le_trans this h.sum
theorem TInv.len {n : Nat} {s : TS} (h : TInv n s) {i : Nat} (hi : i < 2) : (s.l i).length ≤ n := by
 have := nodup_len (a := (s.l i).map Ent.d) (b := s.U) (nodup_of (h.set i hi).up) (fun d hd => by
  obtain ⟨x, hx, rfl⟩ := List.mem_map.1 hd
  exact TS.mem_U (h.kn i hi _ ((h.set i hi).kn x hx)))
 rw [TS.U_len, List.length_map] at this
 exact Nat.le_trans this h.sum
theorem TInv.made_le {n : Nat} {s : TS} (h : TInv n s) {i : Nat} (hi : i < 2) : s.made i ≤ n := by
 have := h.sum
 rcases (by omega : i = 0 ∨ i = 1) with rfl | rfl <;> omega
theorem TS.nd_fresh {s : TS} {i : Nat} : ¬ s.Done (s.nd i) := by
 rintro ⟨j, hj, h1, h2, h3⟩
 have h1 : ((i : Nat) : Int) = (j : Int) := h1
 have h3 : (s.made i : Int) + 1 ≤ (s.made j : Int) := h3
 have : i = j := by omega
 subst this
 omega
theorem TInv.nd_valid {n : Nat} {s : TS} (h : TInv n s) {i : Nat} (hi : i < 2) (hn : n ≤ 1000000) : valid (s.nd i) = true := by
 refine (dm.valid_iff _).2 ⟨?_, ?_, ?_, ?_⟩
 ·
  show (0 : Int) ≤ (i : Int); omega
 ·
  show (i : Int) < 16; omega
 ·
  show (1 : Int) ≤ (s.made i : Int) + 1; omega
 ·
  show (s.made i : Int) + 1 ≤ 1099511627776
  have := h.made_le hi
  omega
theorem TInv.fresh {n : Nat} {s : TS} (h : TInv n s) {i j : Nat} (hj : j < 2) : ¬ dm.Knows (s.c j) (s.nd i) := fun hk => TS.nd_fresh (h.kn j hj _ hk)
def TS.put (s : TS) (i : Nat) (l1 : List Ent) (c1 : dm.Ctx) (m : Nat) : TS := ⟨upd s.l i l1, upd s.c i c1, upd s.made i m⟩
theorem tinv_put {n n' : Nat} {s : TS} (h : TInv n s) {i m : Nat} (hi : i < 2) {l1 : List Ent} {c1 : dm.Ctx} (hr : RSet l1 c1) (h1 : c1.1.length ≤ 16) (hm : s.made i ≤ m) (hn : n + (m - s.made i) ≤ n')
  (hk : ∀ d, dm.Knows c1 d → s.Done d ∨ (d = s.nd i ∧ s.made i < m)) (ha : ∀ j, j < 2 → j ≠ i → Agree l1 (s.l j)) : TInv n' (s.put i l1 c1 m) := by
 have hDone : ∀ d, s.Done d → (s.put i l1 c1 m).Done d := fun d ⟨j, hj, e1, e2, e3⟩ => by
  refine ⟨j, hj, e1, e2, ?_⟩
  show d.2 ≤ ((upd s.made i m j : Nat) : Int)
  by_cases e : j = i
  ·
   subst e; rw [upd_same]; omega
  ·
   rw [upd_other _ _ e]; exact e3
 refine ⟨fun j hj => ?_, fun j hj => ?_, fun j hj d hd => ?_, fun j k hj hk' => ?_, ?_⟩
 ·
  by_cases e : j = i
  ·
   subst e; simp only [TS.put, upd_same]; exact hr
  ·
   simp only [TS.put, upd_other _ _ e]; exact h.set j hj
 ·
  by_cases e : j = i
  ·
   subst e; simp only [TS.put, upd_same]; exact h1
  ·
   simp only [TS.put, upd_other _ _ e]; exact h.len1 j hj
 ·
  by_cases e : j = i
  ·
   subst e
   simp only [TS.put, upd_same] at hd
   rcases hk d hd with hd | ⟨rfl, hlt⟩
   ·
    exact hDone d hd
   ·
    refine ⟨j, hj, rfl, by show (1 : Int) ≤ (s.made j : Int) + 1; omega, ?_⟩
    show (s.made j : Int) + 1 ≤ ((upd s.made j m j : Nat) : Int)
    rw [upd_same]; omega
  ·
   simp only [TS.put, upd_other _ _ e] at hd
   exact hDone d (h.kn j hj d hd)
 ·
  by_cases e : j = i
  ·
   subst e
   by_cases e2 : k = j
   ·
    subst e2
    simp only [TS.put, upd_same]; exact agree_self hr.up
   ·
    simp only [TS.put, upd_same, upd_other _ _ e2]; exact ha k hk' e2
  ·
   by_cases e2 : k = i
   ·
    subst e2
    simp only [TS.put, upd_same, upd_other _ _ e]; exact (ha j hj e).symm
   ·
    simp only [TS.put, upd_other _ _ e, upd_other _ _ e2]; exact h.same j k hj hk'
 ·
  show upd s.made i m 0 + upd s.made i m 1 ≤ n'
  have := h.sum
  rcases (by omega : i = 0 ∨ i = 1) with rfl | rfl <;> simp [upd] <;> omega
theorem rset_mrg {l L L' : List Ent} {c C c' : dm.Ctx} {m : Nat} (hl : RSet l c) (hL : RSet L C) (hp : L'.Perm (mrg l c L C)) (hu : os.Up L') (hc : dm.Is c' (fun e => dm.Knows c e ∨ dm.Knows C e) m) : RSet L' c' :=
 rset_apply hl (rdel_since hL c) hp hu hc
theorem tinv_told {n m : Nat} {s : TS} (h : TInv n s) {i j : Nat} (hi : i < 2) (hj : j < 2) {L' : List Ent} {c' : dm.Ctx} (hp : L'.Perm (mrg (s.l i) (s.c i) (s.l j) (s.c j))) (hu : os.Up L') (hc : dm.Is c' (fun e => dm.Knows (s.c i) e ∨ dm.Knows (s.c j) e) m) : TInv n (s.put i L' c' (s.made i)) := by
 refine tinv_put h hi (rset_mrg (h.set i hi) (h.set j hj) hp hu hc) hc.len1 (Nat.le_refl _) (by omega) (fun d hd => Or.inl ?_) (fun k hk _ x hx y hy e => ?_)
 ·
  rcases (hc.know d).1 hd with hd | hd
  ·
   exact h.kn i hi d hd
  ·
   exact h.kn j hj d hd
 ·
  rcases mem_mrg.1 (hp.mem_iff.1 hx) with hx | hx
  ·
   exact h.same i k hi hk x hx.1 y hy e
  ·
   exact h.same j k hj hk x hx.1 y hy e
theorem tinv_add {n k1 : Nat} {s : TS} (h : TInv n s) {i : Nat} (hi : i < 2) {l1 : List Ent} {c1 : dm.Ctx} {x : Ent} {p : Ent → Bool} (hx : os.Fine x) (hxd : x.d = s.nd i)
  (hp : l1.Perm (staysOf p (s.l i) ++ [x])) (hu : os.Up l1) (h1 : dm.Is c1 (fun e => dm.Knows (s.c i) e ∨ e = x.d) k1) : TInv (n + 1) (s.put i l1 c1 (s.made i + 1)) := by
 refine tinv_put h hi (rset_add (h.set i hi) hx hp hu h1) h1.len1 (by omega) (by omega) (fun d hd => ?_) (fun k hk hne y hy z hz e => ?_)
 ·
  rcases (h1.know d).1 hd with hd | hd
  ·
   exact Or.inl (h.kn i hi d hd)
  ·
   exact Or.inr ⟨by rw [hd, hxd], by omega⟩
 ·
  rcases List.mem_append.1 (hp.mem_iff.1 hy) with hy | hy
  ·
   exact h.same i k hi hk y (mem_stays.1 hy).1 z hz e
  ·
   rw [List.mem_singleton.1 hy, hxd] at e
   exact absurd ((h.set k hk).kn z hz) (by rw [← e]; exact h.fresh hk)
theorem tinv_drop {n k1 : Nat} {s : TS} (h : TInv n s) {i : Nat} (hi : i < 2) {c1 : dm.Ctx} {p : Ent → Bool} (h1 : dm.Is c1 (fun e => dm.Knows (s.c i) e ∨ e = s.nd i) k1) : TInv (n + 1) (s.put i (staysOf p (s.l i)) c1 (s.made i + 1)) := by
 refine tinv_put h hi (rset_drop (h.set i hi) h1) h1.len1 (by omega) (by omega) (fun d hd => ?_) (fun k hk hne y hy z hz e => h.same i k hi hk y (mem_stays.1 hy).1 z hz e)
 rcases (h1.know d).1 hd with hd | hd
 ·
  exact Or.inl (h.kn i hi d hd)
 ·
  exact Or.inr ⟨hd, by omega⟩
def TS.zero : TS := ⟨fun _ => [], fun _ => ([], []), fun _ => 0⟩
theorem tinv_zero (n : Nat) : TInv n TS.zero :=
 ⟨fun _ _ => ⟨right_nil, List.Pairwise.nil, (fun x hx => by cases hx), (fun x hx => by cases hx)⟩, fun _ _ => Nat.zero_le _, fun _ _ d hd => absurd hd (kn_nil d), fun _ _ _ _ x hx => (by cases hx), Nat.zero_le _⟩
end Go.Proofs.YtonknpdalemjkaaGreat
namespace Go.Proofs.YtonknpdalemjkaaGreat
open Go Go.RowKit Go.ChangeShapes cl
def Box6 (w : World) (q : Nat) (g : Nat → Value) : Prop := ∃ arr : Array Value, w.heap[q]? = some (.cells arr 41 (0, 0)) ∧ arr.size = 6 ∧ ∀ j, j < 6 → arr[j]? = some (g j)
theorem Box6.cell {w : World} {q : Nat} {g : Nat → Value} (h : Box6 w q g) {j : Nat} (hj : j < 6) : w.cell? ⟨q, j, none⟩ = some (g j) := by
 obtain ⟨arr, h1, _, h3⟩ := h
 exact boxc h1 j _ (h3 j hj)
theorem Box6.fro {w : World} {q : Nat} {g : Nat → Value} (h : Box6 w q g) (j : Nat) : w.frozen? ⟨q, j, none⟩ = false := by
 obtain ⟨arr, h1, _⟩ := h
 exact boxf h1 j
theorem Box6.lt {w : World} {q : Nat} {g : Nat → Value} (h : Box6 w q g) : q < w.heap.size := by
 obtain ⟨arr, h1, _⟩ := h
 exact lt_of_block h1
theorem Box6.on {w w' : World} {q : Nat} {g : Nat → Value} (h : Box6 w q g) (hb : Below w.heap.size w w') : Box6 w' q g := by
 obtain ⟨arr, h1, h2⟩ := h
 exact ⟨arr, (hb.block _ (lt_of_block h1)).trans h1, h2⟩
theorem Box6.far {w w' : World} {q : Nat} {g : Nat → Value} {r : Option Nat} (h : Box6 w q g) (hg : w.grownBy w' r) (hr : some q ≠ r) : Box6 w' q g := by
 obtain ⟨arr, h1, h2⟩ := h
 exact ⟨arr, (hg.block _ (lt_of_block h1) hr).trans h1, h2⟩
theorem Box6.set {w : World} {q : Nat} {g : Nat → Value} (h : Box6 w q g) {j : Nat} (hj : j < 6) (u : Value) : Box6 (w.setCell ⟨q, j, none⟩ u) q (upd g j u) := by
 obtain ⟨arr, h1, h2, h3⟩ := h
 refine ⟨_, heap_setCell_same _ q j _ _ _ h1, by rw [Array.size_setIfInBounds]; exact h2, fun k hk => ?_⟩
 rw [Array.getElem?_setIfInBounds]
 by_cases e : j = k
 ·
  subst e
  rw [if_pos rfl, if_pos (by omega), upd_same]
 ·
  rw [if_neg e, upd_other _ _ (fun e2 => e e2.symm)]
  exact h3 k hk
theorem Box6.kt {w : World} {q : Nat} {g : Nat → Value} (h : Box6 w q g) (j : Nat) (u : Value) : Kt 41 w (w.setCell ⟨q, j, none⟩ u) := by
 obtain ⟨arr, h1, _⟩ := h
 exact Kt.set h1 j u
def Box2 (w : World) (q : Nat) (m : Nat → Nat) : Prop := w.heap[q]? = some (.cells #[.int .i64 (m 0), .int .i64 (m 1)] 72 (0, 0))
theorem Box2.cell {w : World} {q : Nat} {m : Nat → Nat} (h : Box2 w q m) {j : Nat} (hj : j < 2) : w.cell? ⟨q, j, none⟩ = some (.int .i64 (m j)) := by
 rcases (by omega : j = 0 ∨ j = 1) with rfl | rfl
 ·
  exact boxc h 0 _ rfl
 ·
  exact boxc h 1 _ rfl
theorem Box2.on {w w' : World} {q : Nat} {m : Nat → Nat} (h : Box2 w q m) (hb : Below w.heap.size w w') : Box2 w' q m := (hb.block _ (lt_of_block h)).trans h
theorem Box2.far {w w' : World} {q : Nat} {m : Nat → Nat} {r : Option Nat} (h : Box2 w q m) (hg : w.grownBy w' r) (hr : some q ≠ r) : Box2 w' q m := (hg.block _ (lt_of_block h) hr).trans h
theorem Box2.set {w : World} {q : Nat} {m : Nat → Nat} (h : Box2 w q m) {j : Nat} (hj : j < 2) (n : Nat) : Box2 (w.setCell ⟨q, j, none⟩ (.int .i64 (n : Int))) q (upd m j n) := by
 have h2 := heap_setCell_same _ q j _ _ (.int .i64 (n : Int)) h
 rcases (by omega : j = 0 ∨ j = 1) with rfl | rfl
 ·
  unfold Box2; rw [h2]; rfl
 ·
  unfold Box2; rw [h2]; rfl
structure PIn (B : Nat) (w : World) (g : Nat → Value) (s : TS) : Prop where
 ent : ∀ i, i < 2 → EntO B w (g (i * 3)) (s.l i)
 ctx : ∀ i, i < 2 → OwnC B w (.agg #[g (i * 3 + 1), g (i * 3 + 2)]) (s.c i)
theorem PIn.on {B : Nat} {w w' : World} {g : Nat → Value} {s : TS} (h : PIn B w g s) (hb : Below w.heap.size w w') : PIn B w' g s :=
 ⟨fun i hi => (h.ent i hi).on hb, fun i hi => (h.ctx i hi).on hb⟩
theorem PIn.kt {T : TypeId} {B : Nat} {w w' : World} {g : Nat → Value} {s : TS} (h : PIn B w g s) (hk : Kt T w w') (h1 : 54 ≠ T) (h2 : 51 ≠ T) : PIn B w' g s :=
 ⟨fun i hi => (h.ent i hi).kt hk h1, fun i hi => (h.ctx i hi).kt hk h2⟩
theorem PIn.put {B i : Nat} {w : World} {g : Nat → Value} {s : TS} (h : PIn B w g s) (hi : i < 2) {u0 u1 u2 : Value} {l1 : List Ent} {c1 : dm.Ctx} (m : Nat) (h0 : EntO B w u0 l1) (h1 : OwnC B w (.agg #[u1, u2]) c1) :
  PIn B w (upd (upd (upd g (i * 3) u0) (i * 3 + 1) u1) (i * 3 + 2) u2) (s.put i l1 c1 m) := by
 have hn : ∀ k, k ≠ i * 3 → k ≠ i * 3 + 1 → k ≠ i * 3 + 2 → upd (upd (upd g (i * 3) u0) (i * 3 + 1) u1) (i * 3 + 2) u2 k = g k := fun k a b c => by rw [upd_other _ _ c, upd_other _ _ b, upd_other _ _ a]
 have e2 : upd (upd (upd g (i * 3) u0) (i * 3 + 1) u1) (i * 3 + 2) u2 (i * 3 + 2) = u2 := upd_same _ _ _
 have e1 : upd (upd (upd g (i * 3) u0) (i * 3 + 1) u1) (i * 3 + 2) u2 (i * 3 + 1) = u1 := by rw [upd_other _ _ (by omega), upd_same]
 have e0 : upd (upd (upd g (i * 3) u0) (i * 3 + 1) u1) (i * 3 + 2) u2 (i * 3) = u0 := by rw [upd_other _ _ (by omega), upd_other _ _ (by omega), upd_same]
 refine ⟨fun j hj => ?_, fun j hj => ?_⟩
 ·
  by_cases e : j = i
  ·
   subst e
   show EntO B w (upd (upd (upd g (j * 3) u0) (j * 3 + 1) u1) (j * 3 + 2) u2 (j * 3)) (upd s.l j l1 j)
   rw [e0, upd_same]; exact h0
  ·
   show EntO B w (upd (upd (upd g (i * 3) u0) (i * 3 + 1) u1) (i * 3 + 2) u2 (j * 3)) (upd s.l i l1 j)
   rw [hn _ (by omega) (by omega) (by omega), upd_other _ _ e]; exact h.ent j hj
 ·
  by_cases e : j = i
  ·
   subst e
   show OwnC B w (.agg #[upd (upd (upd g (j * 3) u0) (j * 3 + 1) u1) (j * 3 + 2) u2 (j * 3 + 1), upd (upd (upd g (j * 3) u0) (j * 3 + 1) u1) (j * 3 + 2) u2 (j * 3 + 2)]) (upd s.c j c1 j)
   rw [e1, e2, upd_same]; exact h1
  ·
   show OwnC B w (.agg #[upd (upd (upd g (i * 3) u0) (i * 3 + 1) u1) (i * 3 + 2) u2 (j * 3 + 1), upd (upd (upd g (i * 3) u0) (i * 3 + 1) u1) (i * 3 + 2) u2 (j * 3 + 2)]) (upd s.c i c1 j)
   rw [hn _ (by omega) (by omega) (by omega), hn _ (by omega) (by omega) (by omega), upd_other _ _ e]; exact h.ctx j hj
end Go.Proofs.YtonknpdalemjkaaGreat
namespace Go.Proofs.YtonknpdalemjkaaGreat
open Go Go.RowKit Go.ChangeShapes cl
structure Chg where
 L : List Ent
 A : List Dot
 c : dm.Ctx
instance : Inhabited Chg := ⟨⟨[], [], ([], [])⟩⟩
structure Chgs (C : List Chg) : Prop where
 right : ∀ k, k < C.length → RDel (C.getD k default).L (C.getD k default).A (C.getD k default).c
 one : ∀ k, k < C.length → ((C.getD k default).L = [] ∧ (C.getD k default).A = []) ∨ ∃ x, (C.getD k default).L = [x] ∧ (C.getD k default).A = [x.d]
 apart : ∀ j k, j < C.length → k < C.length → j ≠ k → ∀ x ∈ (C.getD j default).L, ∀ y ∈ (C.getD k default).L, x.d ≠ y.d
structure Means (C : List Chg) (H : Nat → Prop) (l : List Ent) (c : dm.Ctx) : Prop where
 kn : ∀ d, dm.Knows c d ↔ ∃ k, k < C.length ∧ H k ∧ dm.Knows (C.getD k default).c d
 mem : ∀ x, x ∈ l ↔ ∃ k, k < C.length ∧ H k ∧ x ∈ (C.getD k default).L ∧ ∀ j, j < C.length → H j → j ≠ k → ¬ dm.Knows (C.getD j default).c x.d
theorem Chgs.alive {C : List Chg} (h : Chgs C) {k : Nat} (hk : k < C.length) {d : Dot} (hd : d ∈ (C.getD k default).A) : ∃ x ∈ (C.getD k default).L, x.d = d := by
 rcases h.one k hk with ⟨_, e⟩ | ⟨x, e1, e2⟩
 ·
  rw [e] at hd; cases hd
 ·
  rw [e2, List.mem_singleton] at hd
  exact ⟨x, by rw [e1]; simp, hd.symm⟩
end Go.Proofs.YtonknpdalemjkaaGreat
namespace Go.Proofs.YtonknpdalemjkaaGreat
open Go Go.RowKit Go.ChangeShapes cl
def nam : Nat → ByteArray
 | 0 => ⟨#[123, 97, 61, 34, 49, 34, 125]⟩
 | 1 => ⟨#[123, 97, 61, 34, 50, 34, 125]⟩
 | 2 => ⟨#[123, 98, 61, 34, 49, 34, 125]⟩
 | _ => ⟨#[123, 97, 61, 34, 49, 34, 44, 98, 61, 34, 50, 34, 125]⟩
def NM : List ByteArray := [nam 0, nam 1, nam 2, nam 3]
def nlab : Nat → List Lab
 | 0 => [(⟨#[97]⟩, ⟨#[49]⟩)]
 | 1 => [(⟨#[97]⟩, ⟨#[50]⟩)]
 | 2 => [(⟨#[98]⟩, ⟨#[49]⟩)]
 | _ => [(⟨#[97]⟩, ⟨#[49]⟩), (⟨#[98]⟩, ⟨#[50]⟩)]
theorem names_any (w : World) : Calls Tryz.prog 50 #[] w fun e w' => ∃ b, e = .returned (.slice (some ⟨b, 0, none⟩) 4 4) ∧ Strs w' w'.heap.size (.slice (some ⟨b, 0, none⟩) 4 4) NM ∧ Below w.heap.size w w' := by
 go_enter Tryz.func50, Tryz.ntmps50
 go_wp2
 go_ret
 refine ⟨_, rfl, ?_, (Below.refl _ _).alloc (Nat.le_refl _) _⟩
 exact cells_lit w 4 1 (strs NM) _ _ rfl rfl (by decide)
theorem nlab_text : ∀ i, lm.textF (nlab i) = (0, nam i)
 | 0 => by decide +kernel
 | 1 => by decide +kernel
 | 2 => by decide +kernel
 | _ + 3 => (by decide +kernel : lm.textF (nlab 3) = (0, nam 3))
theorem nam_size : ∀ i, (nam i).size ≤ 600
 | 0 => by decide
 | 1 => by decide
 | 2 => by decide
 | _ + 3 => (by decide : (nam 3).size ≤ 600)
theorem nam_fits (i : Nat) : os.Fits (nam i) := ⟨nam_size i, _, nlab_text i⟩
theorem nam_fine {i : Nat} {d : Dot} {t : Int} (hd : valid d = true) (h0 : 0 ≤ t) (h1 : t ≤ 1000000) : os.Fine ⟨nam i, d, t⟩ := ⟨nam_fits i, hd, h0, h1⟩
end Go.Proofs.YtonknpdalemjkaaGreat
