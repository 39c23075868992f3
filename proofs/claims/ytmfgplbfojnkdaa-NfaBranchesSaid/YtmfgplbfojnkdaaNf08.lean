/- texts put together: NfOf. -/
import Derived.Test.YtmfgplbfojnkdaaNf04
import Derived.Test.YtmfgplbfojnkdaaNf07
open List (setIfInBounds_toArray set_cons_zero set_cons_succ take_succ_cons take_zero drop_succ_cons drop_zero)
namespace Go.Proofs.Ytmfgplbfojnkdaa
open Go Go.RowKit Go.ChangeShapes cl rx
theorem appN {P : Program} {w : World} {ops : Array Oper} {rest : List Oper} {o : Oper} {a : Act} {Q : Exit → Act → World → Prop}
  (s x : Operand) (t : TypeId) (hgd : o.guard = none)
  (ho : o.op = .call { callee := .builtin .append, args := #[s, x], argTypes := #[t, t] })
  (base : Nat) {e : TypeId} {z : Value} {size bytes : Nat} (ht : P.underlying t = some (.slice e)) (hi : (P.info? e).map (fun i => (i.zero, i.size, i.bytes)) = some (some z, size, bytes))
  (hzs : z.cells.size = size) (hsz : 0 < size) (hb1 : 0 < bytes)
  {v : Value} {n : Nat} {xs : List Value} (hown : w.ownsRow base e size v n xs) (hs : a.eval s = v)
  {ao : Option Addr} {m c : Nat} {news : List Value} (hx : a.eval x = .slice ao m c) (hc : Cells w w.heap.size (.slice ao m c) m size news) (h1 : ∀ u ∈ news, u.oneCell' = true)
  (hbytes : (n + m) * bytes ≤ 140737488355328) (hbase : base ≤ w.heap.size)
  (h : ∀ v' w', w'.ownsRow base e size v' (n + m) (xs ++ news) → w.grownBy w' v.ownBlock → wpList P ops Q rest (a.put o.dst v') w') :
  wpList P ops Q (o :: rest) a w := by
 obtain ⟨i, hi', hz, hsize, hby⟩ := info_parts hi
 subst hsize
 subst hby
 have hle : n + m ≤ (n + m) * i.bytes := Nat.le_mul_of_pos_right _ hb1
 have hl : news.length = m * i.size := hc.1
 obtain ⟨hnone, hnews⟩ := Cells.news hc
 cases ao with
 | none =>
  obtain ⟨rfl, rfl⟩ := hnone rfl
  obtain rfl : news = [] := List.eq_nil_of_length_eq_zero (by simpa using hl)
  refine wpList_append_own_none hgd s x t ho base e i i.size ht hi' _ n xs hs hown hx (h _ w ?_ ?_)
  ·
   rw [List.append_nil]; exact hown
  ·
   exact ⟨rfl, rfl, rfl, Nat.le_refl _, fun k _ _ => rfl⟩
 | some ad =>
  exact wpList_append_own _ hgd s x t ho base e i z i.size i.bytes ht hi' hz rfl rfl hzs hsz v n xs hs hown ad m c news hx hl (hnews ad rfl) h1 (by unfold maxLen; omega) hbytes hbase fun v' w' r1 r2 _ => h v' w' r1 r2
theorem wp_of_list1 {P : Program} {Q : Exit → Act → World → Prop} {o : Oper} {a : Act} {w : World} {K : Act → World → Prop} (h : ∀ Q' : Exit → Act → World → Prop, (∀ a w, K a w → wpList P #[] Q' [] a w) → wpList P #[] Q' [{ o with guard := none }] a w) : o.wp P a w K Q := by
 have := step_of_list (P := P) (ops := #[]) (Q := Q) (o := { o with guard := none }) (a := a) (w := w) (K := K) (E := True) (by simp [Region.wanted]) h
 rw [if_pos (by simp [Region.wanted])] at this
 exact this
theorem kids_all {P : Pat → Bool} {zs : List Int} {l : List Pat} (h : kidsF P zs l = true) : ∀ k ∈ l, P k = true := fun k hk => by
 unfold kidsF at h
 have := List.all_eq_true.1 h k hk
 exact (Bool.and_eq_true _ _ ▸ this).2
theorem grown_nk {q n : Nat} {ao : Option Addr} {c : Nat} {xs : List Value} {w w' : World} {arr : Array Value} (ho : w.ownsRow (q + 1) 42 7 (.slice ao n c) n xs) (hx : w.heap[q]? = some (.cells arr 48 (0, 0))) (hg : w.grownBy w' (Value.ownBlock (.slice ao n c))) : NK q w w' ∧ w'.heap[q]? = w.heap[q]? := by
 have hlo : ∀ j, (Value.slice ao n c).ownBlock = some j → q + 1 ≤ j := fun j hj => (ho.lt j hj).1
 refine ⟨⟨(Below.refl q w).grown hg (Nat.le_of_lt (lt_of_block hx)) (fun j hj => by have := hlo j hj; omega), hg.size, fun k hk hkq ht => ?_⟩, hg.block q (lt_of_block hx) (fun e => by have := hlo q e.symm; omega)⟩
 refine hg.block k hk (fun e => ?_)
 rcases ho.2 with ⟨e2, _⟩ | ⟨g, c', cur, e2, _, hgg, _⟩
 ·
  rw [e2] at e; cases e
 ·
  rw [e2] at e
  obtain rfl := Option.some.inj e
  exact ht _ _ hgg
set_option maxHeartbeats 12800000 in
set_option maxRecDepth 100000 in
theorem nf_of_step (q d D : Nat) (HR : Lays q d D) : Lays q (d + 1) (D + 1) := by
 intro x c b w hx hok hb h400 hes
 obtain ⟨k, cl, ks, mn, mx⟩ := x
 obtain ⟨ko, kn, kc, rfl, hk⟩ := hx
 have hk : RowsAt 8 (rxR d) w q (.slice ko kn kc) ks := hk
 have hkn : kn = ks.length := by
  obtain ⟨_, _, e, _⟩ := hk.form
  simp only [Value.slice.injEq] at e
  exact e.2.1
 obtain ⟨s, hs⟩ : ∃ s, s = b.sz := ⟨_, rfl⟩
 obtain ⟨es, hes2⟩ : ∃ es, es = b.es := ⟨_, rfl⟩
 obtain rfl : b = ⟨s, es⟩ := by rw [hs, hes2]
 clear hs hes2
 simp only at h400 hes
 show Calls Try.prog 22 #[.pointer (some ⟨q, 0, none⟩), .agg #[.int .i64 k, .int .u64 cl.a, .int .u64 cl.b, .int .u64 cl.c, .int .u64 cl.d, .slice ko kn kc, .int .i64 mn, .int .i64 mx]] w (OfP q ⟨s, es⟩ (nf.of (d + 1) (.mk k cl ks mn mx) ⟨s, es⟩) w)
 unfold okF at hok
 rw [Bool.if_false_left, Bool.and_eq_true] at hok
 obtain ⟨h60, hok⟩ := hok
 rw [Bool.if_false_left, Bool.and_eq_true] at hok
 replace hok := hok.2
 obtain ⟨P, hP⟩ : ∃ P, P = w.heap.size := ⟨_, rfl⟩
 have hbx : ∀ W, W = w.alloc (.cells #[.int .i64 k, .int .u64 cl.a, .int .u64 cl.b, .int .u64 cl.c, .int .u64 cl.d, .slice ko kn kc, .int .i64 mn, .int .i64 mx] 27) → BdAt q ⟨s, es⟩ W ∧ NK q w W ∧ W.heap[P]? = some (.cells #[.int .i64 k, .int .u64 cl.a, .int .u64 cl.b, .int .u64 cl.c, .int .u64 cl.d, .slice ko kn kc, .int .i64 mn, .int .i64 mx] 27 (0, 0)) := fun W hW => by
  subst hW
  exact ⟨hb.next below1, NK.of_below below1 (Nat.le_of_lt hb.lt), by rw [hP]; exact heap_alloc_new w _⟩
 have HPQ : Hid (P ≠ q) := by show _ ≠ _; rw [hP]; have := hb.lt; omega
 have HK := Lib.hid hk
 have HRR := Lib.hid HR
 have HES := Lib.hid hes
 have HPP := Lib.hid hP
 have HLY0 : Hid (nf.of (d + 1) (.mk k cl ks mn mx) ⟨s, es⟩ = nf.of (d + 1) (.mk k cl ks mn mx) ⟨s, es⟩) := rfl
 clear hk HR hes hb hP hkn
 by_cases k1 : k = 1
 ·
  subst k1
  clear hok
  obtain ⟨w1, hw1⟩ : ∃ W, W = w.alloc (.cells #[.int .i64 1, .int .u64 cl.a, .int .u64 cl.b, .int .u64 cl.c, .int .u64 cl.d, .slice ko kn kc, .int .i64 mn, .int .i64 mx] 27) := ⟨_, rfl⟩
  obtain ⟨hbd1, hnk1, hx1⟩ := hbx w1 hw1
  have HS1 := Lib.hid (nf_state q ⟨s, es⟩ w1 hbd1 (by show s ≤ 1000; omega))
  have HW1 := Lib.hid hw1
  have HNK1 := Lib.hid hnk1
  have HX1 := Lib.hid hx1
  clear hbx hbd1 hnk1 hx1 hw1
  go_enter Try.func22, Try.ntmps22
  go_wp2_with fail
  rw [← HW1.out, ← HPP.out]
  (with_reducible refine HS1.out.mono ?_)
  rintro e w2 ⟨rfl, hbd2, hnk2⟩
  have HBD2 := Lib.hid hbd2
  have HNK2 := Lib.hid hnk2
  have HS2 : Hid (Calls Try.prog 36 #[.pointer (some ⟨q, 0, none⟩)] w2 fun e w' => e = .returned (.int .i64 ((s : Int) + 1)) ∧ BdAt q ⟨s + 2, es⟩ w' ∧ NK q w2 w') := nf_state q ⟨s + 1, es⟩ w2 HBD2.out (by show s + 1 ≤ 1000; omega)
  clear hbd2 hnk2
  go_wp2_with fail
  (with_reducible refine HS2.out.mono ?_)
  rintro e w3 ⟨rfl, hbd3, hnk3⟩
  have HBD3 := Lib.hid hbd3
  have HNK3 := Lib.hid (HNK1.out.trans (HNK2.out.trans hnk3))
  have HXP := Lib.hid ((HNK2.out.trans hnk3).box HX1.out HPQ.out (by decide))
  have x0 := boxc HXP.out 0 _ rfl
  have x5 := boxc HXP.out 5 _ rfl
  clear hbd3 hnk3 HS1 HS2
  have HF : Hid (Calls Try.prog 37 #[.pointer (some ⟨q, 0, none⟩), .int .i64 s, .int .i64 ((s : Int) + 1)] w3 fun e w' => e = .returned (.tuple #[]) ∧ BdAt q ((⟨s + 2, es⟩ : nf.Bd).free s (s + 1)) w' ∧ NK q w3 w') := nf_free q s (s + 1) ⟨s + 2, es⟩ w3 HBD3.out (by show es.length ≤ 100000; have := HES.out; omega)
  go_wp2_with fail
  (with_reducible refine HF.out.mono ?_)
  rintro e w4 ⟨rfl, hbd4, hnk4⟩
  have HB4 := Lib.hid hbd4
  have HEND : Hid (OfP q ⟨s, es⟩ (nf.of (d + 1) (.mk 1 cl ks mn mx) ⟨s, es⟩) w (.returned (.tuple #[.int .i64 s, .int .i64 ((s : Int) + 1)])) w4) := ⟨rfl, HB4.out, HNK3.out.trans hnk4⟩
  go_wp2
  exact bodyPost_ret (v := .tuple #[.int .i64 s, .int .i64 ((s : Int) + 1)]) (by simp [results, Try.results22, go_sem]) rfl HEND.out
 ·
  by_cases k2 : k = 2
  ·
   subst k2
   clear hok k1
   obtain ⟨w1, hw1⟩ : ∃ W, W = w.alloc (.cells #[.int .i64 2, .int .u64 cl.a, .int .u64 cl.b, .int .u64 cl.c, .int .u64 cl.d, .slice ko kn kc, .int .i64 mn, .int .i64 mx] 27) := ⟨_, rfl⟩
   obtain ⟨hbd1, hnk1, hx1⟩ := hbx w1 hw1
   have HS1 := Lib.hid (nf_state q ⟨s, es⟩ w1 hbd1 (by show s ≤ 1000; omega))
   have HW1 := Lib.hid hw1
   have HNK1 := Lib.hid hnk1
   have HX1 := Lib.hid hx1
   clear hbx hbd1 hnk1 hx1 hw1
   go_enter Try.func22, Try.ntmps22
   go_wp2_with fail
   rw [← HW1.out, ← HPP.out]
   (with_reducible refine HS1.out.mono ?_)
   rintro e w2 ⟨rfl, hbd2, hnk2⟩
   have HBD2 := Lib.hid hbd2
   have HNK2 := Lib.hid hnk2
   have HS2 : Hid (Calls Try.prog 36 #[.pointer (some ⟨q, 0, none⟩)] w2 fun e w' => e = .returned (.int .i64 ((s : Int) + 1)) ∧ BdAt q ⟨s + 2, es⟩ w' ∧ NK q w2 w') := nf_state q ⟨s + 1, es⟩ w2 HBD2.out (by show s + 1 ≤ 1000; omega)
   clear hbd2 hnk2
   go_wp2_with fail
   (with_reducible refine HS2.out.mono ?_)
   rintro e w3 ⟨rfl, hbd3, hnk3⟩
   have HBD3 := Lib.hid hbd3
   have HNK3 := Lib.hid (HNK1.out.trans (HNK2.out.trans hnk3))
   have HXP := Lib.hid ((HNK2.out.trans hnk3).box HX1.out HPQ.out (by decide))
   have x0 := boxc HXP.out 0 _ rfl
   have x5 := boxc HXP.out 5 _ rfl
   clear hbd3 hnk3 HS1 HS2
   obtain ⟨v3, hq3, ho3⟩ := HBD3.out.box
   obtain ⟨n, hn⟩ : ∃ n, n = es.length := ⟨_, rfl⟩
   simp only at hq3 ho3
   rw [← hn] at ho3
   have hn1 : n ≤ 1000 := by have := HES.out; omega
   obtain ⟨ao, c0, rfl⟩ : ∃ ao c0, v3 = .slice ao n c0 := by
    rcases ho3.2 with ⟨rfl, h0⟩ | ⟨g, c, cur, rfl, _⟩
    ·
     exact ⟨none, 0, by rw [h0]⟩
    ·
     exact ⟨_, _, rfl⟩
   have HQ3 : Hid (w3.heap[q]? = some (.cells #[.int .i64 ((s : Int) + 1 + 1), .slice ao n c0] 48 (0, 0))) := hq3
   have HO3 := Lib.hid ho3
   have HN := Lib.hid hn
   have HQL : Hid (q ≤ w3.heap.size) := Nat.le_of_lt HBD3.out.lt
   have HQZ : Hid (q + 1 ≤ w3.heap.size) := HBD3.out.lt
   clear hq3 ho3 hn
   go_wp2_with fail
   refine wp_flowG 14 (fun kF => match kF with | 10 => 11 | _ => 1000) (fun ww => NK q w3 ww ∧ ww.heap[q]? = some (.cells #[.int .i64 ((s : Int) + 1 + 1), .slice ao n c0] 48 (0, 0))) (fun i w w' => if i = 11 then (fun (w w' : World) => NK q w w' ∧ w'.heap[q]? = w.heap[q]?) w w' else (fun (w w' : World) => RowKit.Below w.heap.size w w') w w') (fun sF wF => match sF with | 11 => (wF.ownsRow (q + 1) 42 7 (.slice ao n c0) n (ecells es)) | _ => True) (fun kF vF wF => match kF with | 0 => (vF = .pointer (some ⟨q, 0, none⟩)) | 1 => (vF = .pointer (some ⟨q, 0, none⟩)) | 2 => (vF = .pointer (some ⟨q, 0, none⟩)) | 3 => (vF = .pointer (some ⟨q, 1, none⟩)) | 4 => (vF = .slice ao n c0) | 5 => (vF = .int .i64 s) | 6 => (vF = .int .i64 ((s : Int) + 1)) | 7 => (vF = .pointer (some ⟨P, 1, none⟩)) | 8 => (vF = .agg #[.int .u64 cl.a, .int .u64 cl.b, .int .u64 cl.c, .int .u64 cl.d]) | 9 => (vF = .agg #[.int .i64 s, .int .i64 ((s : Int) + 1), .bool false, .int .u64 cl.a, .int .u64 cl.b, .int .u64 cl.c, .int .u64 cl.d]) | 10 => (∃ g, vF = .slice (some ⟨g, 0, none⟩) 1 1 ∧ wF.heap[g]? = some (.cells #[.int .i64 s, .int .i64 ((s : Int) + 1), .bool false, .int .u64 cl.a, .int .u64 cl.b, .int .u64 cl.c, .int .u64 cl.d] 42 (0, 0))) | 11 => (∃ ao2 c2, vF = .slice ao2 (n + 1) c2 ∧ wF.ownsRow (q + 1) 42 7 (.slice ao2 (n + 1) c2) (n + 1) (ecells es ++ [.int .i64 s, .int .i64 ((s : Int) + 1), .bool false, .int .u64 cl.a, .int .u64 cl.b, .int .u64 cl.c, .int .u64 cl.d])) | 12 => (vF = .pointer (some ⟨q, 0, none⟩)) | 13 => (vF = .pointer (some ⟨q, 1, none⟩)) | _ => True) (fun _ _ _ _ => True) (by kernel_rfl) (by kernel_rfl) ?_ ?_ ?_ ?_ ?_ ?_ ?_
   ·
    exact ⟨NK.of_below (Below.refl _ _).drew HQL.out, HQ3.out⟩
   ·
    intro sF hsF
    rcases (by omega : sF = 0 ∨ sF = 1 ∨ sF = 2 ∨ sF = 3 ∨ sF = 4 ∨ sF = 5 ∨ sF = 6 ∨ sF = 7 ∨ sF = 8 ∨ sF = 9 ∨ sF = 10 ∨ sF = 11 ∨ sF = 12 ∨ sF = 13) with rfl | rfl | rfl | rfl | rfl | rfl | rfl | rfl | rfl | rfl | rfl | rfl | rfl | rfl
    iterate 11 exact trivial
    ·
     exact own_stay HO3.out ((Below.refl _ _).drew)
    iterate 2 exact trivial
   ·
    intro iF wF1 wF2 hR hT
    have hT : (fun i w w' => if i = 11 then (fun (w w' : World) => NK q w w' ∧ w'.heap[q]? = w.heap[q]?) w w' else (fun (w w' : World) => RowKit.Below w.heap.size w w') w w') iF wF1 wF2 := hT
    simp only at hT
    by_cases hi11 : iF = 11
    ·
     rw [if_pos hi11] at hT; exact ⟨hR.1.trans hT.1, hT.2.trans hR.2⟩
    rw [if_neg hi11] at hT
    exact ⟨hR.1.trans (NK.of_below hT (Nat.le_trans HQL.out hR.1.size)), (hT.block _ (lt_of_block hR.2)).trans hR.2⟩
   ·
    intro sF hsF iF hiF hne hanc wF1 wF2 hRF hgF hT
    rcases (by omega : sF = 0 ∨ sF = 1 ∨ sF = 2 ∨ sF = 3 ∨ sF = 4 ∨ sF = 5 ∨ sF = 6 ∨ sF = 7 ∨ sF = 8 ∨ sF = 9 ∨ sF = 10 ∨ sF = 11 ∨ sF = 12 ∨ sF = 13) with rfl | rfl | rfl | rfl | rfl | rfl | rfl | rfl | rfl | rfl | rfl | rfl | rfl | rfl
    iterate 11 exact trivial
    ·
     have hg : (wF1.ownsRow (q + 1) 42 7 (.slice ao n c0) n (ecells es)) := hgF
     show (wF2.ownsRow (q + 1) 42 7 (.slice ao n c0) n (ecells es))
     have hT : (fun i w w' => if i = 11 then (fun (w w' : World) => NK q w w' ∧ w'.heap[q]? = w.heap[q]?) w w' else (fun (w w' : World) => RowKit.Below w.heap.size w w') w w') iF wF1 wF2 := hT
     simp only at hT
     by_cases hi11 : iF = 11
     ·
      exact absurd hi11.symm hne
     rw [if_neg hi11] at hT
     exact own_stay hg hT
    iterate 2 exact trivial
   ·
    intro kF hkF iF hiF hne hdd hanc hdan vF wF1 wF2 h hT
    rcases (by omega : kF = 0 ∨ kF = 1 ∨ kF = 2 ∨ kF = 3 ∨ kF = 4 ∨ kF = 5 ∨ kF = 6 ∨ kF = 7 ∨ kF = 8 ∨ kF = 9 ∨ kF = 10 ∨ kF = 11 ∨ kF = 12 ∨ kF = 13) with rfl | rfl | rfl | rfl | rfl | rfl | rfl | rfl | rfl | rfl | rfl | rfl | rfl | rfl
    iterate 10 exact h
    ·
     have h : (∃ g, vF = .slice (some ⟨g, 0, none⟩) 1 1 ∧ wF1.heap[g]? = some (.cells #[.int .i64 s, .int .i64 ((s : Int) + 1), .bool false, .int .u64 cl.a, .int .u64 cl.b, .int .u64 cl.c, .int .u64 cl.d] 42 (0, 0))) := h
     show (∃ g, vF = .slice (some ⟨g, 0, none⟩) 1 1 ∧ wF2.heap[g]? = some (.cells #[.int .i64 s, .int .i64 ((s : Int) + 1), .bool false, .int .u64 cl.a, .int .u64 cl.b, .int .u64 cl.c, .int .u64 cl.d] 42 (0, 0)))
     have hT : (fun i w w' => if i = 11 then (fun (w w' : World) => NK q w w' ∧ w'.heap[q]? = w.heap[q]?) w w' else (fun (w w' : World) => RowKit.Below w.heap.size w w') w w') iF wF1 wF2 := hT
     simp only at hT
     by_cases hi11 : iF = 11
     ·
      exact absurd hi11.symm hdd
     rw [if_neg hi11] at hT
     obtain ⟨g, e, h1⟩ := h
     exact ⟨g, e, (hT.block _ (lt_of_block h1)).trans h1⟩
    ·
     have h : (∃ ao2 c2, vF = .slice ao2 (n + 1) c2 ∧ wF1.ownsRow (q + 1) 42 7 (.slice ao2 (n + 1) c2) (n + 1) (ecells es ++ [.int .i64 s, .int .i64 ((s : Int) + 1), .bool false, .int .u64 cl.a, .int .u64 cl.b, .int .u64 cl.c, .int .u64 cl.d])) := h
     show (∃ ao2 c2, vF = .slice ao2 (n + 1) c2 ∧ wF2.ownsRow (q + 1) 42 7 (.slice ao2 (n + 1) c2) (n + 1) (ecells es ++ [.int .i64 s, .int .i64 ((s : Int) + 1), .bool false, .int .u64 cl.a, .int .u64 cl.b, .int .u64 cl.c, .int .u64 cl.d]))
     have hT : (fun i w w' => if i = 11 then (fun (w w' : World) => NK q w w' ∧ w'.heap[q]? = w.heap[q]?) w w' else (fun (w w' : World) => RowKit.Below w.heap.size w w') w w') iF wF1 wF2 := hT
     simp only at hT
     by_cases hi11 : iF = 11
     ·
      exact absurd hi11.symm hne
     rw [if_neg hi11] at hT
     obtain ⟨ao2, c2, e, ho⟩ := h
     exact ⟨ao2, c2, e, own_stay ho hT⟩
    iterate 2 exact h
   ·
    generalize hAF : fillOf _ _ _ = AF
    replace hAF := fun x => congrFun hAF x
    simp only [take_succ_cons, take_zero, fillOf, Act.put, setIfInBounds_toArray, set_cons_zero, set_cons_succ, Nat.reduceAdd, Nat.zero_add] at hAF
    refine .cons ?_ (.cons ?_ (.cons ?_ (.cons ?_ (.cons ?_ (.cons ?_ (.cons ?_ (.cons ?_ (.cons ?_ (.cons ?_ (.cons ?_ (.cons ?_ (.cons ?_ (.cons ?_ (.nil))))))))))))))
    all_goals
     intro xF w4 hR hg hd K hK
     first | simp only [← hAF, Act.put, setIfInBounds_toArray, set_cons_zero, set_cons_succ] at hK ⊢ | simp only [← hAF, Act.put] at hK ⊢
     clear hAF
     try simp only [Nat.zero_add, Nat.reduceAdd] at hK ⊢
    ·
     clear hg hd
     obtain ⟨hRn, hRq⟩ := id hR
     rw [if_pos (by rfl)]
     go_simp
     exact hK.out _ _ (Below.refl _ _) (rfl) (fun _ _ _ => ⟨trivial, trivial⟩)
    ·
     clear hg hd
     obtain ⟨hRn, hRq⟩ := id hR
     rw [if_pos (by rfl)]
     go_simp
     exact hK.out _ _ (Below.refl _ _) (rfl) (fun _ _ _ => ⟨trivial, trivial⟩)
    ·
     clear hg
     have dd1 := hd 1 (by kernel_rfl)
     clear hd
     try generalize xF 1 = yy1 at *
     obtain rfl := dd1
     obtain ⟨hRn, hRq⟩ := id hR
     rw [if_pos (by rfl)]
     go_simp
     exact hK.out _ _ (Below.refl _ _) (rfl) (fun _ _ _ => ⟨trivial, trivial⟩)
    ·
     clear hg
     have dd2 := hd 2 (by kernel_rfl)
     clear hd
     try generalize xF 2 = yy2 at *
     obtain rfl := dd2
     obtain ⟨hRn, hRq⟩ := id hR
     rw [if_pos (by rfl)]
     go_simp
     exact hK.out _ _ (Below.refl _ _) (rfl) (fun _ _ _ => ⟨trivial, trivial⟩)
    ·
     clear hg
     have dd3 := hd 3 (by kernel_rfl)
     clear hd
     try generalize xF 3 = yy3 at *
     obtain rfl := dd3
     obtain ⟨hRn, hRq⟩ := id hR
     have c1 := boxc hRq 1 _ rfl
     rw [if_pos (by rfl)]
     go_simp
     exact hK.out _ _ (Below.refl _ _) (rfl) (fun _ _ _ => ⟨trivial, trivial⟩)
    ·
     clear hg hd
     obtain ⟨hRn, hRq⟩ := id hR
     rw [if_pos (by rfl)]
     go_simp
     exact hK.out _ _ (Below.refl _ _) (rfl) (fun _ _ _ => ⟨trivial, trivial⟩)
    ·
     clear hg hd
     obtain ⟨hRn, hRq⟩ := id hR
     rw [if_pos (by rfl)]
     go_simp
     exact hK.out _ _ (Below.refl _ _) (rfl) (fun _ _ _ => ⟨trivial, trivial⟩)
    ·
     clear hg hd
     obtain ⟨hRn, hRq⟩ := id hR
     rw [if_pos (by rfl)]
     go_simp
     exact hK.out _ _ (Below.refl _ _) (rfl) (fun _ _ _ => ⟨trivial, trivial⟩)
    ·
     clear hg
     have dd7 := hd 7 (by kernel_rfl)
     clear hd
     try generalize xF 7 = yy7 at *
     obtain rfl := dd7
     obtain ⟨hRn, hRq⟩ := id hR
     have hPx := hRn.box HXP.out HPQ.out (by decide)
     have k1 := boxc hPx 1 _ rfl
     have k2 := boxc hPx 2 _ rfl
     have k3 := boxc hPx 3 _ rfl
     have k4 := boxc hPx 4 _ rfl
     rw [if_pos (by rfl)]
     go_simp
     exact hK.out _ _ (Below.refl _ _) (rfl) (fun _ _ _ => ⟨trivial, trivial⟩)
    ·
     clear hg
     have dd5 := hd 5 (by kernel_rfl)
     have dd6 := hd 6 (by kernel_rfl)
     have dd8 := hd 8 (by kernel_rfl)
     clear hd
     try generalize xF 5 = yy5 at *
     try generalize xF 6 = yy6 at *
     try generalize xF 8 = yy8 at *
     obtain rfl := dd5
     obtain rfl := dd6
     obtain rfl := dd8
     obtain ⟨hRn, hRq⟩ := id hR
     rw [if_pos (by rfl)]
     go_simp
     exact hK.out _ _ (Below.refl _ _) (rfl) (fun _ _ _ => ⟨trivial, trivial⟩)
    ·
     clear hg
     have dd9 := hd 9 (by kernel_rfl)
     clear hd
     try generalize xF 9 = yy9 at *
     obtain rfl := dd9
     obtain ⟨hRn, hRq⟩ := id hR
     rw [if_pos (by rfl)]
     go_simp
     exact hK.out _ _ (below1) (⟨_, rfl, heap_alloc_new _ _⟩) (fun _ _ _ => ⟨trivial, trivial⟩)
    ·
     have gg11 : (w4.ownsRow (q + 1) 42 7 (.slice ao n c0) n (ecells es)) := hg 11 (by omega) (by decide)
     clear hg
     have dd4 := hd 4 (by kernel_rfl)
     have dd10 := hd 10 (by kernel_rfl)
     clear hd
     try generalize xF 4 = yy4 at *
     try generalize xF 10 = yy10 at *
     obtain rfl := dd4
     obtain ⟨g10, rfl, hg10⟩ := dd10
     obtain ⟨hRn, hRq⟩ := id hR
     rw [if_pos (by rfl)]
     refine wp_of_list1 (fun Q' hQ' => ?_)
     refine appN (.tmp 26) (.tmp 32) 30 rfl rfl (q + 1) Try.underlying30 infoEdge rfl (by decide) (by decide) gg11 rfl rfl (news := [.int .i64 s, .int .i64 ((s : Int) + 1), .bool false, .int .u64 cl.a, .int .u64 cl.b, .int .u64 cl.c, .int .u64 cl.d]) ⟨rfl, some ⟨g10, 0, none⟩, 1, rfl, ⟨(fun e => by cases e), by simp⟩, by unfold maxLen; simp, fun _ => ⟨g10, 0, rfl, lt_of_block hg10, fun i u hu => by rw [Nat.zero_add]; exact boxc hg10 i u (by simpa [← Array.getElem?_toList] using hu)⟩⟩ (by intro u hu; simp at hu; rcases hu with rfl | rfl | rfl | rfl | rfl | rfl | rfl <;> rfl) (by omega) (by have := HQZ.out; have := hRn.size; omega) ?_
     intro vN wN hownN hgN
     refine hQ' _ _ ?_
     obtain ⟨aoN, cpN, rfl⟩ : ∃ aoN cpN, vN = .slice aoN (n + 1) cpN := by
      rcases hownN.2 with ⟨_, h0⟩ | ⟨g, c, cur, rfl, _⟩
      ·
       cases h0
      ·
       exact ⟨_, _, rfl⟩
     simp only [Act.put, setIfInBounds_toArray, set_cons_zero, set_cons_succ]
     exact hK.out _ _ (grown_nk gg11 hRq hgN) (⟨aoN, cpN, rfl, hownN⟩) (fun _ _ _ => ⟨trivial, trivial⟩)
    ·
     clear hg
     have dd0 := hd 0 (by kernel_rfl)
     clear hd
     try generalize xF 0 = yy0 at *
     obtain rfl := dd0
     obtain ⟨hRn, hRq⟩ := id hR
     rw [if_pos (by rfl)]
     go_simp
     exact hK.out _ _ (Below.refl _ _) (rfl) (fun _ _ _ => ⟨trivial, trivial⟩)
    ·
     clear hg
     have dd12 := hd 12 (by kernel_rfl)
     clear hd
     try generalize xF 12 = yy12 at *
     obtain rfl := dd12
     obtain ⟨hRn, hRq⟩ := id hR
     rw [if_pos (by rfl)]
     go_simp
     exact hK.out _ _ (Below.refl _ _) (rfl) (fun _ _ _ => ⟨trivial, trivial⟩)
   intro xF w4 hR hF hP
   clear hP
   have dd0 := hF 0 (by omega) (by decide)
   have dd1 := hF 1 (by omega) (by decide)
   have dd2 := hF 2 (by omega) (by decide)
   have dd3 := hF 3 (by omega) (by decide)
   have dd4 := hF 4 (by omega) (by decide)
   have dd5 := hF 5 (by omega) (by decide)
   have dd6 := hF 6 (by omega) (by decide)
   have dd7 := hF 7 (by omega) (by decide)
   have dd8 := hF 8 (by omega) (by decide)
   have dd9 := hF 9 (by omega) (by decide)
   have dd11 := hF 11 (by omega) (by decide)
   have dd12 := hF 12 (by omega) (by decide)
   have dd13 := hF 13 (by omega) (by decide)
   clear hF
   simp only [take_succ_cons, take_zero, drop_succ_cons, drop_zero, fillOf, Act.put, setIfInBounds_toArray, set_cons_zero, set_cons_succ, Nat.reduceAdd, Nat.zero_add]
   try generalize xF 0 = yy0 at *
   try generalize xF 1 = yy1 at *
   try generalize xF 2 = yy2 at *
   try generalize xF 3 = yy3 at *
   try generalize xF 4 = yy4 at *
   try generalize xF 5 = yy5 at *
   try generalize xF 6 = yy6 at *
   try generalize xF 7 = yy7 at *
   try generalize xF 8 = yy8 at *
   try generalize xF 9 = yy9 at *
   try generalize xF 10 = yy10 at *
   try generalize xF 11 = yy11 at *
   try generalize xF 12 = yy12 at *
   try generalize xF 13 = yy13 at *
   clear xF
   obtain rfl := dd0
   obtain rfl := dd1
   obtain rfl := dd2
   obtain rfl := dd3
   obtain rfl := dd4
   obtain rfl := dd5
   obtain rfl := dd6
   obtain rfl := dd7
   obtain rfl := dd8
   obtain rfl := dd9
   obtain ⟨ao2, c2, rfl, ho11⟩ := dd11
   obtain rfl := dd12
   obtain rfl := dd13
   have hRE := Lib.hid hR
   clear hR
   have hRq := hRE.out.2
   have c1 := boxc hRq 1 _ rfl
   have f1 := boxf hRq 1
   have x6 : (w4.setCell ⟨q, 1, none⟩ (.slice ao2 (n + 1) c2)).heap[q]? = some (.cells #[.int .i64 ((s : Int) + 1 + 1), .slice ao2 (n + 1) c2] 48 (0, 0)) := heap_setCell_same w4 q 1 _ _ _ hRq
   have HEND : Hid (OfP q ⟨s, es⟩ (nf.of (d + 1) (.mk 2 cl ks mn mx) ⟨s, es⟩) w (.returned (.tuple #[.int .i64 s, .int .i64 ((s : Int) + 1)])) (w4.setCell ⟨q, 1, none⟩ (.slice ao2 (n + 1) c2))) := by
    refine ⟨rfl, ⟨_, x6, ?_⟩, HNK3.out.trans (hRE.out.1.trans nk_set)⟩
    have h3 : (nf.of (d + 1) (.mk 2 cl ks mn mx) ⟨s, es⟩).es = es ++ [⟨s, s + 1, false, cl⟩] := rfl
    rw [h3, List.length_append, ← HN.out, ecells_snoc]
    exact ownsRow_setCell_below ho11 (a := ⟨q, 1, none⟩) (by show q < q + 1; omega) _
   clear hRq x6 ho11
   go_wp2
   exact bodyPost_ret (v := .tuple #[.int .i64 s, .int .i64 ((s : Int) + 1)]) (by simp [results, Try.results22, go_sem]) rfl HEND.out
  ·
   rw [if_neg k1, if_neg k2] at hok
   by_cases k3 : k = 3
   ·
    rw [if_pos k3, Bool.and_eq_true] at hok
    have HKO := Lib.hid (kids_all hok.2)
    subst k3
    clear hok k1 k2
    obtain ⟨w1, hw1⟩ : ∃ W, W = w.alloc (.cells #[.int .i64 3, .int .u64 cl.a, .int .u64 cl.b, .int .u64 cl.c, .int .u64 cl.d, .slice ko kn kc, .int .i64 mn, .int .i64 mx] 27) := ⟨_, rfl⟩
    obtain ⟨hbd1, hnk1, hx1⟩ := hbx w1 hw1
    have HS1 := Lib.hid (nf_state q ⟨s, es⟩ w1 hbd1 (by show s ≤ 1000; omega))
    have HW1 := Lib.hid hw1
    have HNK1 := Lib.hid hnk1
    have HX1 := Lib.hid hx1
    clear hbx hbd1 hnk1 hx1 hw1
    go_enter Try.func22, Try.ntmps22
    go_wp2_with fail
    rw [← HW1.out, ← HPP.out]
    (with_reducible refine HS1.out.mono ?_)
    rintro e w2 ⟨rfl, hbd2, hnk2⟩
    have HBD2 := Lib.hid hbd2
    have HNK2 := Lib.hid hnk2
    have HS2 : Hid (Calls Try.prog 36 #[.pointer (some ⟨q, 0, none⟩)] w2 fun e w' => e = .returned (.int .i64 ((s : Int) + 1)) ∧ BdAt q ⟨s + 2, es⟩ w' ∧ NK q w2 w') := nf_state q ⟨s + 1, es⟩ w2 HBD2.out (by show s + 1 ≤ 1000; omega)
    clear hbd2 hnk2
    go_wp2_with fail
    (with_reducible refine HS2.out.mono ?_)
    rintro e w3 ⟨rfl, hbd3, hnk3⟩
    have HBD3 := Lib.hid hbd3
    have HNK3 := Lib.hid (HNK1.out.trans (HNK2.out.trans hnk3))
    have HXP := Lib.hid ((HNK2.out.trans hnk3).box HX1.out HPQ.out (by decide))
    have x0 := boxc HXP.out 0 _ rfl
    have x5 := boxc HXP.out 5 _ rfl
    clear hbd3 hnk3 HS1 HS2
    have HF : Hid (Calls Try.prog 38 #[.pointer (some ⟨q, 0, none⟩), .slice ko kn kc, .int .i64 s, .int .i64 ((s : Int) + 1)] w3 fun e w' => e = .returned (.tuple #[]) ∧ BdAt q ((nf.thenF (nf.of d) ks s ⟨s + 2, es⟩).2.free (nf.thenF (nf.of d) ks s ⟨s + 2, es⟩).1 (s + 1)) w' ∧ NK q w3 w') := nf_then q d D s (s + 1) ks _ ⟨s + 2, es⟩ w3 HRR.out (HK.out.below (rxR_steady d) HNK3.out.below (Nat.le_refl q)) (HKO.out) HBD3.out (by show s + 2 ≤ 402; omega) (by show es.length ≤ 2 * (s + 2); have := HES.out; omega)
    go_wp2_with fail
    (with_reducible refine HF.out.mono ?_)
    rintro e w4 ⟨rfl, hbd4, hnk4⟩
    have HB4 := Lib.hid hbd4
    have HEND : Hid (OfP q ⟨s, es⟩ (nf.of (d + 1) (.mk 3 cl ks mn mx) ⟨s, es⟩) w (.returned (.tuple #[.int .i64 s, .int .i64 ((s : Int) + 1)])) w4) := ⟨rfl, HB4.out, HNK3.out.trans hnk4⟩
    go_wp2
    exact bodyPost_ret (v := .tuple #[.int .i64 s, .int .i64 ((s : Int) + 1)]) (by simp [results, Try.results22, go_sem]) rfl HEND.out
   ·
    rw [if_neg k3] at hok
    by_cases k4 : k = 4
    ·
     rw [if_pos k4, Bool.and_eq_true] at hok
     have HKO := Lib.hid (kids_all hok.2)
     subst k4
     clear hok k1 k2 k3
     obtain ⟨w1, hw1⟩ : ∃ W, W = w.alloc (.cells #[.int .i64 4, .int .u64 cl.a, .int .u64 cl.b, .int .u64 cl.c, .int .u64 cl.d, .slice ko kn kc, .int .i64 mn, .int .i64 mx] 27) := ⟨_, rfl⟩
     obtain ⟨hbd1, hnk1, hx1⟩ := hbx w1 hw1
     have HS1 := Lib.hid (nf_state q ⟨s, es⟩ w1 hbd1 (by show s ≤ 1000; omega))
     have HW1 := Lib.hid hw1
     have HNK1 := Lib.hid hnk1
     have HX1 := Lib.hid hx1
     clear hbx hbd1 hnk1 hx1 hw1
     go_enter Try.func22, Try.ntmps22
     go_wp2_with fail
     rw [← HW1.out, ← HPP.out]
     (with_reducible refine HS1.out.mono ?_)
     rintro e w2 ⟨rfl, hbd2, hnk2⟩
     have HBD2 := Lib.hid hbd2
     have HNK2 := Lib.hid hnk2
     have HS2 : Hid (Calls Try.prog 36 #[.pointer (some ⟨q, 0, none⟩)] w2 fun e w' => e = .returned (.int .i64 ((s : Int) + 1)) ∧ BdAt q ⟨s + 2, es⟩ w' ∧ NK q w2 w') := nf_state q ⟨s + 1, es⟩ w2 HBD2.out (by show s + 1 ≤ 1000; omega)
     clear hbd2 hnk2
     go_wp2_with fail
     (with_reducible refine HS2.out.mono ?_)
     rintro e w3 ⟨rfl, hbd3, hnk3⟩
     have HBD3 := Lib.hid hbd3
     have HNK3 := Lib.hid (HNK1.out.trans (HNK2.out.trans hnk3))
     have HXP := Lib.hid ((HNK2.out.trans hnk3).box HX1.out HPQ.out (by decide))
     have x0 := boxc HXP.out 0 _ rfl
     have x5 := boxc HXP.out 5 _ rfl
     clear hbd3 hnk3 HS1 HS2
     have HF : Hid (Calls Try.prog 39 #[.pointer (some ⟨q, 0, none⟩), .slice ko kn kc, .int .i64 s, .int .i64 ((s : Int) + 1)] w3 fun e w' => e = .returned (.tuple #[]) ∧ BdAt q (nf.orF (nf.of d) s (s + 1) ks ⟨s + 2, es⟩) w' ∧ NK q w3 w') := nf_or q d D s (s + 1) ks _ ⟨s + 2, es⟩ w3 HRR.out (HK.out.below (rxR_steady d) HNK3.out.below (Nat.le_refl q)) (HKO.out) HBD3.out (by show s + 2 ≤ 402; omega) (by show es.length ≤ 2 * (s + 2); have := HES.out; omega)
     go_wp2_with fail
     (with_reducible refine HF.out.mono ?_)
     rintro e w4 ⟨rfl, hbd4, hnk4⟩
     have HB4 := Lib.hid hbd4
     have HEND : Hid (OfP q ⟨s, es⟩ (nf.of (d + 1) (.mk 4 cl ks mn mx) ⟨s, es⟩) w (.returned (.tuple #[.int .i64 s, .int .i64 ((s : Int) + 1)])) w4) := ⟨rfl, HB4.out, HNK3.out.trans hnk4⟩
     go_wp2
     exact bodyPost_ret (v := .tuple #[.int .i64 s, .int .i64 ((s : Int) + 1)]) (by simp [results, Try.results22, go_sem]) rfl HEND.out
    ·
     rw [if_neg k4] at hok
     by_cases k5 : k = 5
     ·
      rw [if_pos k5, Bool.and_eq_true, Bool.and_eq_true] at hok
      obtain ⟨hl1, hbn, hkd⟩ := hok
      have hl1 := of_decide_eq_true hl1
      have hbn := of_decide_eq_true hbn
      obtain ⟨y, rfl⟩ : ∃ y, ks = [y] := List.length_eq_one_iff.1 hl1
      have HKO := Lib.hid (kids_all hkd y (List.mem_singleton.2 rfl))
      obtain ⟨m, rfl⟩ : ∃ m : Nat, mn = (m : Int) := ⟨mn.toNat, by omega⟩
      have hm20 : m ≤ 20 := by omega
      obtain ⟨kb, ko', rfl, rfl⟩ : ∃ kb ko', ko = some ⟨kb, ko', none⟩ ∧ kn = 1 := by
       obtain ⟨kb, off, c, e, _⟩ := RowsAt.get (HK.out) (j := 0) (n := kn) (by obtain ⟨_, _, e, _⟩ := HK.out.form; simp only [Value.slice.injEq] at e; exact e.2.1) (by obtain ⟨_, _, e, _⟩ := HK.out.form; simp only [Value.slice.injEq] at e; rw [e.2.1]; simp) default
       obtain ⟨_, _, e2, _⟩ := HK.out.form
       simp only [Value.slice.injEq] at e2
       exact ⟨kb, off, e, e2.2.1⟩
      obtain ⟨ko, rfl⟩ : ∃ z, z = ko' := ⟨_, rfl⟩
      subst k5
      clear k1 k2 k3 k4 hl1 hkd
      by_cases hmx : mx = -1
      ·
       subst hmx
       clear hbn
       obtain ⟨w1, hw1⟩ : ∃ W, W = w.alloc (.cells #[.int .i64 5, .int .u64 cl.a, .int .u64 cl.b, .int .u64 cl.c, .int .u64 cl.d, .slice (some ⟨kb, ko, none⟩) 1 kc, .int .i64 (m : Int), .int .i64 (-1)] 27) := ⟨_, rfl⟩
       obtain ⟨hbd1, hnk1, hx1⟩ := hbx w1 hw1
       have HS1 := Lib.hid (nf_state q ⟨s, es⟩ w1 hbd1 (by show s ≤ 1000; omega))
       have HW1 := Lib.hid hw1
       have HNK1 := Lib.hid hnk1
       have HX1 := Lib.hid hx1
       clear hbx hbd1 hnk1 hx1 hw1
       go_enter Try.func22, Try.ntmps22
       go_wp2_with fail
       rw [← HW1.out, ← HPP.out]
       (with_reducible refine HS1.out.mono ?_)
       rintro e w2 ⟨rfl, hbd2, hnk2⟩
       have HBD2 := Lib.hid hbd2
       have HNK2 := Lib.hid hnk2
       have HS2 : Hid (Calls Try.prog 36 #[.pointer (some ⟨q, 0, none⟩)] w2 fun e w' => e = .returned (.int .i64 ((s : Int) + 1)) ∧ BdAt q ⟨s + 2, es⟩ w' ∧ NK q w2 w') := nf_state q ⟨s + 1, es⟩ w2 HBD2.out (by show s + 1 ≤ 1000; omega)
       clear hbd2 hnk2
       go_wp2_with fail
       (with_reducible refine HS2.out.mono ?_)
       rintro e w3 ⟨rfl, hbd3, hnk3⟩
       have HBD3 := Lib.hid hbd3
       have HNK3 := Lib.hid (HNK1.out.trans (HNK2.out.trans hnk3))
       have HXP := Lib.hid ((HNK2.out.trans hnk3).box HX1.out HPQ.out (by decide))
       have x0 := boxc HXP.out 0 _ rfl
       have x5 := boxc HXP.out 5 _ rfl
       clear hbd3 hnk3 HS1 HS2
       have x1 := boxc HXP.out 1 _ rfl
       have x2 := boxc HXP.out 2 _ rfl
       have x3 := boxc HXP.out 3 _ rfl
       have x4 := boxc HXP.out 4 _ rfl
       have x6 := boxc HXP.out 6 _ rfl
       have x7 := boxc HXP.out 7 _ rfl
       have HF : Hid (Calls Try.prog 40 #[.pointer (some ⟨q, 0, none⟩), .agg #[.int .i64 5, .int .u64 cl.a, .int .u64 cl.b, .int .u64 cl.c, .int .u64 cl.d, .slice (some ⟨kb, ko, none⟩) 1 kc, .int .i64 (m : Int), .int .i64 (-1)], .int .i64 s, .int .i64 ((s : Int) + 1)] w3 fun e w' => e = .returned (.tuple #[]) ∧ BdAt q ((nf.manyF (nf.of d y) m (-1) (s + 1) (m + 1) 0 s ⟨s + 2, es⟩).2.free (nf.manyF (nf.of d y) m (-1) (s + 1) (m + 1) 0 s ⟨s + 2, es⟩).1 (s + 1)) w' ∧ NK q w3 w') := nf_many_inf q d D s (s + 1) (.mk 5 cl [y] m (-1)) y m kb ko kc ⟨s + 2, es⟩ w3 HRR.out (HK.out.below (rxR_steady d) HNK3.out.below (Nat.le_refl q)) HKO.out (by omega) HBD3.out (by show s + 2 ≤ 402; omega) (by show es.length ≤ 2 * (s + 2); have := HES.out; omega)
       go_wp2_with fail
       (with_reducible refine HF.out.mono ?_)
       rintro e w4 ⟨rfl, hbd4, hnk4⟩
       have HOF : Hid (nf.of (d + 1) (.mk 5 cl [y] m (-1)) ⟨s, es⟩ = (nf.manyF (nf.of d y) m (-1) (s + 1) (m + 1) 0 s ⟨s + 2, es⟩).2.free (nf.manyF (nf.of d y) m (-1) (s + 1) (m + 1) 0 s ⟨s + 2, es⟩).1 (s + 1)) := by
        show _ = _
        have ht : nf.times m (-1) = (m + 1) := by unfold nf.times; simp; try omega
        unfold nf.of
        simp only [Pat.k, Pat.ks, Pat.mn, Pat.mx]
        rw [ht]
        rfl
       have HB4 : Hid (BdAt q (nf.of (d + 1) (.mk 5 cl [y] m (-1)) ⟨s, es⟩) w4) := by show BdAt _ _ _; rw [HOF.out]; exact hbd4
       have HEND : Hid (OfP q ⟨s, es⟩ (nf.of (d + 1) (.mk 5 cl [y] m (-1)) ⟨s, es⟩) w (.returned (.tuple #[.int .i64 s, .int .i64 ((s : Int) + 1)])) w4) := ⟨rfl, HB4.out, HNK3.out.trans hnk4⟩
       go_wp2
       exact bodyPost_ret (v := .tuple #[.int .i64 s, .int .i64 ((s : Int) + 1)]) (by simp [results, Try.results22, go_sem]) rfl HEND.out
      ·
       obtain ⟨n, rfl⟩ : ∃ n : Nat, mx = (n : Int) := ⟨mx.toNat, by omega⟩
       have hn21 : n ≤ 21 := by omega
       clear hbn hmx
       obtain ⟨w1, hw1⟩ : ∃ W, W = w.alloc (.cells #[.int .i64 5, .int .u64 cl.a, .int .u64 cl.b, .int .u64 cl.c, .int .u64 cl.d, .slice (some ⟨kb, ko, none⟩) 1 kc, .int .i64 (m : Int), .int .i64 (n : Int)] 27) := ⟨_, rfl⟩
       obtain ⟨hbd1, hnk1, hx1⟩ := hbx w1 hw1
       have HS1 := Lib.hid (nf_state q ⟨s, es⟩ w1 hbd1 (by show s ≤ 1000; omega))
       have HW1 := Lib.hid hw1
       have HNK1 := Lib.hid hnk1
       have HX1 := Lib.hid hx1
       clear hbx hbd1 hnk1 hx1 hw1
       go_enter Try.func22, Try.ntmps22
       go_wp2_with fail
       rw [← HW1.out, ← HPP.out]
       (with_reducible refine HS1.out.mono ?_)
       rintro e w2 ⟨rfl, hbd2, hnk2⟩
       have HBD2 := Lib.hid hbd2
       have HNK2 := Lib.hid hnk2
       have HS2 : Hid (Calls Try.prog 36 #[.pointer (some ⟨q, 0, none⟩)] w2 fun e w' => e = .returned (.int .i64 ((s : Int) + 1)) ∧ BdAt q ⟨s + 2, es⟩ w' ∧ NK q w2 w') := nf_state q ⟨s + 1, es⟩ w2 HBD2.out (by show s + 1 ≤ 1000; omega)
       clear hbd2 hnk2
       go_wp2_with fail
       (with_reducible refine HS2.out.mono ?_)
       rintro e w3 ⟨rfl, hbd3, hnk3⟩
       have HBD3 := Lib.hid hbd3
       have HNK3 := Lib.hid (HNK1.out.trans (HNK2.out.trans hnk3))
       have HXP := Lib.hid ((HNK2.out.trans hnk3).box HX1.out HPQ.out (by decide))
       have x0 := boxc HXP.out 0 _ rfl
       have x5 := boxc HXP.out 5 _ rfl
       clear hbd3 hnk3 HS1 HS2
       have x1 := boxc HXP.out 1 _ rfl
       have x2 := boxc HXP.out 2 _ rfl
       have x3 := boxc HXP.out 3 _ rfl
       have x4 := boxc HXP.out 4 _ rfl
       have x6 := boxc HXP.out 6 _ rfl
       have x7 := boxc HXP.out 7 _ rfl
       have HF : Hid (Calls Try.prog 40 #[.pointer (some ⟨q, 0, none⟩), .agg #[.int .i64 5, .int .u64 cl.a, .int .u64 cl.b, .int .u64 cl.c, .int .u64 cl.d, .slice (some ⟨kb, ko, none⟩) 1 kc, .int .i64 (m : Int), .int .i64 (n : Int)], .int .i64 s, .int .i64 ((s : Int) + 1)] w3 fun e w' => e = .returned (.tuple #[]) ∧ BdAt q ((nf.manyF (nf.of d y) m (n : Int) (s + 1) n 0 s ⟨s + 2, es⟩).2.free (nf.manyF (nf.of d y) m (n : Int) (s + 1) n 0 s ⟨s + 2, es⟩).1 (s + 1)) w' ∧ NK q w3 w') := nf_many_to q d D s (s + 1) (.mk 5 cl [y] m (n : Int)) y m n kb ko kc ⟨s + 2, es⟩ w3 HRR.out (HK.out.below (rxR_steady d) HNK3.out.below (Nat.le_refl q)) HKO.out (by omega) HBD3.out (by show s + 2 ≤ 402; omega) (by show es.length ≤ 2 * (s + 2); have := HES.out; omega)
       go_wp2_with fail
       (with_reducible refine HF.out.mono ?_)
       rintro e w4 ⟨rfl, hbd4, hnk4⟩
       have HOF : Hid (nf.of (d + 1) (.mk 5 cl [y] m (n : Int)) ⟨s, es⟩ = (nf.manyF (nf.of d y) m (n : Int) (s + 1) n 0 s ⟨s + 2, es⟩).2.free (nf.manyF (nf.of d y) m (n : Int) (s + 1) n 0 s ⟨s + 2, es⟩).1 (s + 1)) := by
        show _ = _
        have ht : nf.times m (n : Int) = n := by unfold nf.times; rw [if_neg (by omega)]; omega
        unfold nf.of
        simp only [Pat.k, Pat.ks, Pat.mn, Pat.mx]
        rw [ht]
        rfl
       have HB4 : Hid (BdAt q (nf.of (d + 1) (.mk 5 cl [y] m (n : Int)) ⟨s, es⟩) w4) := by show BdAt _ _ _; rw [HOF.out]; exact hbd4
       have HEND : Hid (OfP q ⟨s, es⟩ (nf.of (d + 1) (.mk 5 cl [y] m (n : Int)) ⟨s, es⟩) w (.returned (.tuple #[.int .i64 s, .int .i64 ((s : Int) + 1)])) w4) := ⟨rfl, HB4.out, HNK3.out.trans hnk4⟩
       go_wp2
       exact bodyPost_ret (v := .tuple #[.int .i64 s, .int .i64 ((s : Int) + 1)]) (by simp [results, Try.results22, go_sem]) rfl HEND.out
     ·
      rw [if_neg k5] at hok
      cases hok
theorem nf_of : ∀ (d D q : Nat), Lays q d D
 | 0, _, _ => fun _ _ _ _ h _ _ _ _ => h.elim
 | _ + 1, 0, _ => fun x _ _ _ _ h _ _ _ => by cases x; cases h
 | d + 1, D + 1, q => nf_of_step q d D (nf_of d D q)
end Go.Proofs.Ytmfgplbfojnkdaa
